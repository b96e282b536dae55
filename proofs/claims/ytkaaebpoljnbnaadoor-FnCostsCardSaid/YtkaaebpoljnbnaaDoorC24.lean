/- Chapter 24: CostOk, AddCosts, PerLoaf, LargestPart. -/
import Derived.Test.YtkaaebpoljnbnaaDoorAll
import Derived.Test.YtkaaebpoljnbnaaDoorGi
import Derived.Test.YtkaaebpoljnbnaaDoorQuiet
import Derived.StillTailTactics
namespace Go.Proofs.YtkaaebpoljnbnaaDoor
open Go.ChangeShapes Go.WideShapes Go.ChangeAt Go.RowKit
set_option linter.unusedVariables false
set_option linter.unusedSimpArgs false

def costB (a b c : Int) : Bool := inB a 0 100000 && inB b 0 100000 && inB c 0 100000
theorem cost_all (a b c : Int) : allIn [a, b, c] 0 100000 3 = costB a b c := by simp [allIn, allOk, inAt, costB]
theorem cost_in {a b c : Int} (h : costB a b c = true) : 0 ≤ a ∧ a ≤ 100000 ∧ 0 ≤ b ∧ b ≤ 100000 ∧ 0 ≤ c ∧ c ≤ 100000 := by
  simp only [costB, Bool.and_eq_true] at h
  have h1 := inB_tt h.1.1
  have h2 := inB_tt h.1.2
  have h3 := inB_tt h.2
  omega
theorem iCostOk (a b c : Int) (w : World) : Calls Tryd.prog 13 #[.agg #[.int .i64 a, .int .i64 b, .int .i64 c]] w (Val (.bool (costB a b c)) w) := by
  go_enter Tryd.func13, Tryd.ntmps13
  go_wp2_with fail
  refine (iAll _ 3 3 [a, b, c] 0 100000 _ (by unfold maxLen; omega) (reads_at _ _ #[.int .i64 a, .int .i64 b, .int .i64 c] [a, b, c] _ (by simp) rfl)).mono ?_
  rintro _ _ ⟨rfl, rfl⟩
  rw [cost_all]
  go_wp2
  go_ret
  exact Val.mk' rfl (by (repeat (first | exact In.refl _ | assumption | apply In.alloc | apply In.drewN | apply In.drew | (refine In.step ?_ (by assumption)))))
def largV (a b c : Int) : Int := if costB a b c then (if b ≤ a ∧ c ≤ a then 0 else if c ≤ b then 1 else 2) else -1
theorem larg_gidx (a b c : Int) : gidx [a, b, c] 3 = if b ≤ a ∧ c ≤ a then 0 else if c ≤ b then 1 else 2 := by
  rw [gidx, if_neg (by decide)]
  by_cases h1 : a < b <;> by_cases h2 : a < c <;> by_cases h3 : b < c
  all_goals
    simp [amax, gF, h1, h2, h3]
  all_goals (try omega)
  all_goals (repeat' split) 
  all_goals (try omega)
theorem iLargestPart (a b c : Int) (w : World) : Calls Tryd.prog 12 #[.agg #[.int .i64 a, .int .i64 b, .int .i64 c]] w (Val (i64 (largV a b c)) w) := by
  have q0 : Blk (w.alloc (.cells #[.int .i64 a, .int .i64 b, .int .i64 c] 25)) w.heap.size 25 #[.int .i64 a, .int .i64 b, .int .i64 c] := Blk.new w _ _
  cases h : costB a b c
  · go_enter Tryd.func12, Tryd.ntmps12
    (go_wp2_with fail; refine (iCostOk a b c _).mono ?_; rintro _ _ ⟨rfl, _⟩)
    rw [h]
    go_wp2
    go_ret
    exact Val.mk' (v_int (by simp [largV, h])) (by (repeat (first | exact In.refl _ | assumption | apply In.alloc | apply In.drewN | apply In.drew | (refine In.step ?_ (by assumption)))))
  have HV : Hid (largV a b c = gidx [a, b, c] 3) := Lib.hid (by rw [larg_gidx]; simp [largV, h])
  go_enter Tryd.func12, Tryd.ntmps12
  go_wp2_with fail
  refine (iCostOk a b c _).mono ?_
  rintro _ w1 ⟨rfl, hb1⟩
  have i1 : In w.heap.size w w1 := In.step (by (repeat (first | exact In.refl _ | assumption | apply In.alloc | apply In.drewN | apply In.drew | (refine In.step ?_ (by assumption))))) hb1
  have k1 : Blk w1 w.heap.size 25 #[.int .i64 a, .int .i64 b, .int .i64 c] := Blk.step q0 hb1
  have c0 : w1.cell? ⟨w.heap.size, 0, none⟩ = some (.int .i64 a) := k1.cell 0
  have c1 : w1.cell? ⟨w.heap.size, 1, none⟩ = some (.int .i64 b) := k1.cell 1
  have c2 : w1.cell? ⟨w.heap.size, 2, none⟩ = some (.int .i64 c) := k1.cell 2
  have l1 := k1.lt
  clear hb1 q0
  rw [h]
  go_wp2_with fail
  refine (iGreatest _ 3 3 [a, b, c] _ (by unfold maxLen; omega) (reads_at _ _ #[.int .i64 a, .int .i64 b, .int .i64 c] [a, b, c] _ (by simp) rfl)).mono ?_
  rintro _ w2 ⟨rfl, hb2⟩
  go_wp2
  go_ret
  exact Val.mk' (v_int HV.out.symm) (In.step (by (repeat (first | exact In.refl _ | assumption | apply In.alloc | apply In.drewN | apply In.drew | (refine In.step ?_ (by assumption))))) hb2)
def upV (n d : Int) : Int := (n + (d - 1)) / d
theorem up_in {n d : Int} (h1 : 0 ≤ n) (h2 : n ≤ 100000000) (h3 : 1 ≤ d) (h4 : d ≤ 1000) : 0 ≤ upV n d ∧ upV n d ≤ 100001000 := by
  unfold upV
  have e1 : 0 ≤ (n + (d - 1)) / d := Int.ediv_nonneg (by omega) (by omega)
  have e2 := Int.ediv_le_self (a := n + (d - 1)) d (by omega)
  omega
theorem iroundedUp (n d : Int) (h1 : 0 ≤ n) (h2 : n ≤ 100000000) (h3 : 1 ≤ d) (h4 : d ≤ 1000) (w : World) : Calls Tryd.prog 25 #[.int .i64 n, .int .i64 d] w (Same (i64 (upV n d)) w) := by
  have hd : d ≠ 0 := by omega
  have e : n + d - 1 = n + (d - 1) := by omega
  go_enter Tryd.func25, Tryd.ntmps25
  go_wp2
  go_ret
  exact ⟨ret_int (by rw [upV, ← e]), rfl⟩
def perB (a b c n : Int) : Bool := costB a b c && inB n 1 1000
def perV (a b c n : Int) : Value := if perB a b c n then .agg #[.int .i64 (upV a n), .int .i64 (upV b n), .int .i64 (upV c n)] else .agg #[.int .i64 0, .int .i64 0, .int .i64 0]
def addB (a b c d e f : Int) : Bool := costB a b c && costB d e f && costB (a + d) (b + e) (c + f)
def addV (a b c d e f : Int) : Value := if addB a b c d e f then .tuple #[.agg #[.int .i64 (a + d), .int .i64 (b + e), .int .i64 (c + f)], .bool true] else .tuple #[.agg #[.int .i64 0, .int .i64 0, .int .i64 0], .bool false]
set_option maxHeartbeats 1000000 in
theorem iPerLoaf (a b c n : Int) (w : World) : Calls Tryd.prog 10 #[.agg #[.int .i64 a, .int .i64 b, .int .i64 c], .int .i64 n] w (Val (perV a b c n) w) := by
  have q0 : Blk ((w.alloc (.cells #[.int .i64 a, .int .i64 b, .int .i64 c] 25)).alloc (.cells #[.int .i64 0, .int .i64 0, .int .i64 0] 25)) w.heap.size 25 #[.int .i64 a, .int .i64 b, .int .i64 c] := (Blk.new w _ _).alloc _
  have q1 : Blk ((w.alloc (.cells #[.int .i64 a, .int .i64 b, .int .i64 c] 25)).alloc (.cells #[.int .i64 0, .int .i64 0, .int .i64 0] 25)) (w.heap.size + 1) 25 #[.int .i64 0, .int .i64 0, .int .i64 0] := by have h := Blk.new (w.alloc (.cells #[.int .i64 a, .int .i64 b, .int .i64 c] 25)) 25 #[.int .i64 0, .int .i64 0, .int .i64 0]; simpa using h
  cases h1 : costB a b c
  · have HV : Hid (perV a b c n = .agg #[.int .i64 0, .int .i64 0, .int .i64 0]) := Lib.hid (by simp [perV, perB, h1])
    go_enter Tryd.func10, Tryd.ntmps10
    go_wp2_with fail
    refine (iCostOk a b c _).mono ?_
    rintro _ w1 ⟨rfl, hb1⟩
    have i1 : In w.heap.size w w1 := In.step (by (repeat (first | exact In.refl _ | assumption | apply In.alloc | apply In.drewN | apply In.drew | (refine In.step ?_ (by assumption))))) hb1
    have k1 : Blk w1 w.heap.size 25 #[.int .i64 a, .int .i64 b, .int .i64 c] := Blk.step q0 hb1
    have c0 : w1.cell? ⟨w.heap.size, 0, none⟩ = some (.int .i64 a) := k1.cell 0
    have c1 : w1.cell? ⟨w.heap.size, 1, none⟩ = some (.int .i64 b) := k1.cell 1
    have c2 : w1.cell? ⟨w.heap.size, 2, none⟩ = some (.int .i64 c) := k1.cell 2
    have l1 := k1.lt
    have k2 := Blk.step q1 hb1
    have d0 : w1.cell? ⟨w.heap.size + 1, 0, none⟩ = some (.int .i64 0) := k2.cell 0
    have d1 : w1.cell? ⟨w.heap.size + 1, 1, none⟩ = some (.int .i64 0) := k2.cell 1
    have d2 : w1.cell? ⟨w.heap.size + 1, 2, none⟩ = some (.int .i64 0) := k2.cell 2
    have z0 := k2.frozen 0
    have z1 := k2.frozen 1
    have z2 := k2.frozen 2
    have l2 := k2.lt
    clear hb1 q0 q1
    rw [h1]
    go_wp2_with (first | (go_at_call 24; refine (iIn _ _ _ _).mono ?_; rintro e w' ⟨rfl, rfl⟩) | go_in | (go_end0; simp only []; go_at_K))
    exact bodyPost_ret (v := .agg #[.int .i64 0, .int .i64 0, .int .i64 0]) (by simp [results, Tryd.results10, go_sem, d0, d1, d2]) rfl (Val.mk' (by rw [HV.out]) (by first | exact i1 | exact In.set_ (In.set_ (In.set_ i1 (by simp) _) (by simp) _) (by simp) _ | exact In.drew (In.set_ (In.set_ (In.set_ i1 (by simp) _) (by simp) _) (by simp) _)))
  cases h2 : inB n 1 1000
  · have HV : Hid (perV a b c n = .agg #[.int .i64 0, .int .i64 0, .int .i64 0]) := Lib.hid (by simp [perV, perB, h2])
    go_enter Tryd.func10, Tryd.ntmps10
    go_wp2_with fail
    refine (iCostOk a b c _).mono ?_
    rintro _ w1 ⟨rfl, hb1⟩
    have i1 : In w.heap.size w w1 := In.step (by (repeat (first | exact In.refl _ | assumption | apply In.alloc | apply In.drewN | apply In.drew | (refine In.step ?_ (by assumption))))) hb1
    have k1 : Blk w1 w.heap.size 25 #[.int .i64 a, .int .i64 b, .int .i64 c] := Blk.step q0 hb1
    have c0 : w1.cell? ⟨w.heap.size, 0, none⟩ = some (.int .i64 a) := k1.cell 0
    have c1 : w1.cell? ⟨w.heap.size, 1, none⟩ = some (.int .i64 b) := k1.cell 1
    have c2 : w1.cell? ⟨w.heap.size, 2, none⟩ = some (.int .i64 c) := k1.cell 2
    have l1 := k1.lt
    have k2 := Blk.step q1 hb1
    have d0 : w1.cell? ⟨w.heap.size + 1, 0, none⟩ = some (.int .i64 0) := k2.cell 0
    have d1 : w1.cell? ⟨w.heap.size + 1, 1, none⟩ = some (.int .i64 0) := k2.cell 1
    have d2 : w1.cell? ⟨w.heap.size + 1, 2, none⟩ = some (.int .i64 0) := k2.cell 2
    have z0 := k2.frozen 0
    have z1 := k2.frozen 1
    have z2 := k2.frozen 2
    have l2 := k2.lt
    clear hb1 q0 q1
    rw [h1]
    go_wp2_with (first | (go_at_call 24; refine (iIn _ _ _ _).mono ?_; rintro e w' ⟨rfl, rfl⟩) | go_in | (go_end0; simp only []; go_at_K))
    exact bodyPost_ret (v := .agg #[.int .i64 0, .int .i64 0, .int .i64 0]) (by simp [results, Tryd.results10, go_sem, d0, d1, d2]) rfl (Val.mk' (by rw [HV.out]) (by first | exact i1 | exact In.set_ (In.set_ (In.set_ i1 (by simp) _) (by simp) _) (by simp) _ | exact In.drew (In.set_ (In.set_ (In.set_ i1 (by simp) _) (by simp) _) (by simp) _)))
  have HV : Hid (perV a b c n = .agg #[.int .i64 (upV a n), .int .i64 (upV b n), .int .i64 (upV c n)]) := Lib.hid (by simp [perV, perB, h1, h2])
  obtain ⟨a1, a2, b1, b2, c1', c2'⟩ := cost_in h1
  obtain ⟨n1, n2⟩ := inB_tt h2
  have hn0 : n ≠ 0 := by omega
  obtain ⟨u1, u2⟩ := up_in a1 (by omega) n1 n2
  obtain ⟨u3, u4⟩ := up_in b1 (by omega) n1 n2
  obtain ⟨u5, u6⟩ := up_in c1' (by omega) n1 n2
  have e1 : (a + (n - 1)) / n = upV a n := rfl
  have e2 : (b + (n - 1)) / n = upV b n := rfl
  have e3 : (c + (n - 1)) / n = upV c n := rfl
  go_enter Tryd.func10, Tryd.ntmps10
  go_wp2_with fail
  refine (iCostOk a b c _).mono ?_
  rintro _ w1 ⟨rfl, hb1⟩
  have i1 : In w.heap.size w w1 := In.step (by (repeat (first | exact In.refl _ | assumption | apply In.alloc | apply In.drewN | apply In.drew | (refine In.step ?_ (by assumption))))) hb1
  have k1 : Blk w1 w.heap.size 25 #[.int .i64 a, .int .i64 b, .int .i64 c] := Blk.step q0 hb1
  have c0 : w1.cell? ⟨w.heap.size, 0, none⟩ = some (.int .i64 a) := k1.cell 0
  have c1 : w1.cell? ⟨w.heap.size, 1, none⟩ = some (.int .i64 b) := k1.cell 1
  have c2 : w1.cell? ⟨w.heap.size, 2, none⟩ = some (.int .i64 c) := k1.cell 2
  have l1 := k1.lt
  have k2 := Blk.step q1 hb1
  have d0 : w1.cell? ⟨w.heap.size + 1, 0, none⟩ = some (.int .i64 0) := k2.cell 0
  have d1 : w1.cell? ⟨w.heap.size + 1, 1, none⟩ = some (.int .i64 0) := k2.cell 1
  have d2 : w1.cell? ⟨w.heap.size + 1, 2, none⟩ = some (.int .i64 0) := k2.cell 2
  have z0 := k2.frozen 0
  have z1 := k2.frozen 1
  have z2 := k2.frozen 2
  have l2 := k2.lt
  clear hb1 q0 q1
  rw [h1]
  go_wp2_with (first | (go_at_call 24; refine (iIn _ _ _ _).mono ?_; rintro e w' ⟨rfl, rfl⟩) | go_in | (go_end0; simp only []; go_at_K))
  go_still_tail 13, (by kernel_rfl)
  still_call ((iroundedUp a n a1 (by omega) n1 n2 _).mono fun _ _ h => ⟨h.1, h.2.symm⟩)
  repeat still_step
  still_call ((iroundedUp b n b1 (by omega) n1 n2 _).mono fun _ _ h => ⟨h.1, h.2.symm⟩)
  repeat still_step
  still_call ((iroundedUp c n c1' (by omega) n1 n2 _).mono fun _ _ h => ⟨h.1, h.2.symm⟩)
  repeat still_step
  refine wpStill_nil ?_
  change wpList _ _ _ _ _ w1.drew
  go_wp2
  exact bodyPost_ret (v := .agg #[.int .i64 (upV a n), .int .i64 (upV b n), .int .i64 (upV c n)]) (by simp [results, Tryd.results10, go_sem, d0, d1, d2]) rfl (Val.mk' (by rw [HV.out]) (by first | exact i1 | exact In.set_ (In.set_ (In.set_ i1 (by simp) _) (by simp) _) (by simp) _ | exact In.drew (In.set_ (In.set_ (In.set_ i1 (by simp) _) (by simp) _) (by simp) _)))
end Go.Proofs.YtkaaebpoljnbnaaDoor
