/- Chapter 13: what its functions answer, the model's and the program's. -/
import Derived.Test.YtmafnlcphohioaaAll
namespace Go.Proofs.Ytmafnlcphohioaa
open Go.ChangeShapes Go.WideShapes Go.ChangeAt Go.RowKit
set_option linter.unusedVariables false
set_option linter.unusedSimpArgs false

def rackB (a b c : Int) : Bool := inB a 0 10000 && inB b 0 10000 && inB c 0 10000
theorem rack_all (a b c : Int) : allIn [a, b, c] 0 10000 3 = rackB a b c := by simp [allIn, allOk, inAt, rackB]
theorem rack_in {a b c : Int} (h : rackB a b c = true) : 0 ≤ a ∧ a ≤ 10000 ∧ 0 ≤ b ∧ b ≤ 10000 ∧ 0 ≤ c ∧ c ≤ 10000 := by
  simp only [rackB, Bool.and_eq_true] at h
  have h1 := inB_tt h.1.1
  have h2 := inB_tt h.1.2
  have h3 := inB_tt h.2
  omega
theorem iRackOk (a b c : Int) (w : World) : Calls Try.prog 23 #[.agg #[.int .i64 a, .int .i64 b, .int .i64 c]] w (Val (.bool (rackB a b c)) w) := by
  go_enter Try.func23, Try.ntmps23
  go_wp2_with fail
  refine (iAll _ 3 3 [a, b, c] 0 10000 _ (by unfold maxLen; omega) (reads_at _ _ #[.int .i64 a, .int .i64 b, .int .i64 c] [a, b, c] _ (by simp) rfl)).mono ?_
  rintro _ _ ⟨rfl, rfl⟩
  rw [rack_all]
  go_wp2
  go_ret
  exact Val.mk' rfl (by (repeat (first | exact In.refl _ | assumption | apply In.alloc | apply In.drewN | apply In.drew | (refine In.step ?_ (by assumption)))))
def sellB (a b c n : Int) : Bool := rackB a b c && inB n 0 10000
def freshV (a b c n : Int) : Value := if sellB a b c n then .tuple #[.agg #[.int .i64 (a - min n a), .int .i64 (b - min (n - min n a) b), .int .i64 c], .int .i64 (min n a + min (n - min n a) b)] else .tuple #[.agg #[.int .i64 a, .int .i64 b, .int .i64 c], .int .i64 (-1)]
def cheapV (a b c n : Int) : Value := if sellB a b c n then .tuple #[.agg #[.int .i64 a, .int .i64 (b - min (n - min n c) b), .int .i64 (c - min n c)], .int .i64 (min n c + min (n - min n c) b)] else .tuple #[.agg #[.int .i64 a, .int .i64 b, .int .i64 c], .int .i64 (-1)]
def mornV (a b c n : Int) : Value := if sellB a b c n then .tuple #[.agg #[.int .i64 n, .int .i64 a, .int .i64 b], .int .i64 c] else .tuple #[.agg #[.int .i64 a, .int .i64 b, .int .i64 c], .int .i64 (-1)]
theorem icanMove (a b c n : Int) (w : World) : Calls Try.prog 60 #[.agg #[.int .i64 a, .int .i64 b, .int .i64 c], .int .i64 n] w (Val (.bool (sellB a b c n)) w) := by
  cases h1 : rackB a b c
  · go_enter Try.func60, Try.ntmps60
    (go_wp2_with fail; refine (iRackOk a b c _).mono ?_; rintro _ _ ⟨rfl, _⟩)
    rw [h1]
    go_wp2
    go_ret
    exact Val.mk' (v_bool (by simp [sellB, h1])) (by (repeat (first | exact In.refl _ | assumption | apply In.alloc | apply In.drewN | apply In.drew | (refine In.step ?_ (by assumption)))))
  · cases h2 : inB n 0 10000
    all_goals
      go_enter Try.func60, Try.ntmps60
      (go_wp2_with fail; refine (iRackOk a b c _).mono ?_; rintro _ _ ⟨rfl, _⟩)
      rw [h1]
      go_wp2_with (first | (go_at_call 55; refine (iIn _ _ _ _).mono ?_; rintro e w' ⟨rfl, rfl⟩) | go_in | (go_end0; simp only []; go_at_K))
      go_ret
      exact Val.mk' (v_bool (by simp [sellB, h1, h2])) (by (repeat (first | exact In.refl _ | assumption | apply In.alloc | apply In.drewN | apply In.drew | (refine In.step ?_ (by assumption)))))
set_option maxHeartbeats 1000000 in
theorem iSellFresh (a b c n : Int) (w : World) : Calls Try.prog 19 #[.agg #[.int .i64 a, .int .i64 b, .int .i64 c], .int .i64 n] w (Val (freshV a b c n) w) := by
  have q0 : Blk ((w.alloc (.cells #[.int .i64 a, .int .i64 b, .int .i64 c] 36)).alloc (.cells #[.int .i64 0, .int .i64 0, .int .i64 0] 36)) w.heap.size 36 #[.int .i64 a, .int .i64 b, .int .i64 c] := (Blk.new w _ _).alloc _
  have q1 : Blk ((w.alloc (.cells #[.int .i64 a, .int .i64 b, .int .i64 c] 36)).alloc (.cells #[.int .i64 0, .int .i64 0, .int .i64 0] 36)) (w.heap.size + 1) 36 #[.int .i64 0, .int .i64 0, .int .i64 0] := by have h := Blk.new (w.alloc (.cells #[.int .i64 a, .int .i64 b, .int .i64 c] 36)) 36 #[.int .i64 0, .int .i64 0, .int .i64 0]; simpa using h
  cases h3 : sellB a b c n
  · have HV : Hid (freshV a b c n = .tuple #[.agg #[.int .i64 a, .int .i64 b, .int .i64 c], .int .i64 (-1)]) := Lib.hid (by simp [freshV, h3])
    go_enter Try.func19, Try.ntmps19
    go_wp2_with fail
    refine (icanMove a b c n _).mono ?_
    rintro _ w1 ⟨rfl, hb1⟩
    have i1 : In w.heap.size w w1 := In.step (by (repeat (first | exact In.refl _ | assumption | apply In.alloc | apply In.drewN | apply In.drew | (refine In.step ?_ (by assumption))))) hb1
    have k1 : Blk w1 w.heap.size 36 #[.int .i64 a, .int .i64 b, .int .i64 c] := Blk.step q0 hb1
    have c0 : w1.cell? ⟨w.heap.size, 0, none⟩ = some (.int .i64 a) := k1.cell 0
    have c1 : w1.cell? ⟨w.heap.size, 1, none⟩ = some (.int .i64 b) := k1.cell 1
    have c2 : w1.cell? ⟨w.heap.size, 2, none⟩ = some (.int .i64 c) := k1.cell 2
    have l1 := k1.lt
    have k2 := Blk.step q1 hb1
    have d0 : w1.cell? ⟨w.heap.size + 1, 0, none⟩ = some (.int .i64 0) := k2.cell 0
    have d1 : w1.cell? ⟨w.heap.size + 1, 1, none⟩ = some (.int .i64 0) := k2.cell 1
    have d2 : w1.cell? ⟨w.heap.size + 1, 2, none⟩ = some (.int .i64 0) := k2.cell 2
    have z0 := k2.frozen 0
    have z1 := k2.frozen 1
    have z2 := k2.frozen 2
    have l2 := k2.lt
    clear hb1 q0 q1
    rw [h3]
    go_wp2_with (first | (go_at_call 55; refine (iIn _ _ _ _).mono ?_; rintro e w' ⟨rfl, rfl⟩) | go_in | (go_end0; simp only []; go_at_K))
    exact bodyPost_ret (v := .tuple #[.agg #[.int .i64 a, .int .i64 b, .int .i64 c], .int .i64 (-1)]) (by simp [results, Try.results19, go_sem, d0, d1, d2]) rfl (Val.mk' (by rw [HV.out]) (by first | exact In.set_ (In.set_ (In.set_ i1 (by simp) _) (by simp) _) (by simp) _ | exact In.drew (In.set_ (In.set_ (In.set_ i1 (by simp) _) (by simp) _) (by simp) _)))
  have h3' := h3
  simp only [sellB, Bool.and_eq_true] at h3'
  obtain ⟨h1, h2⟩ := h3'
  have HB := rack_in h1
  have HN := inB_tt h2
  by_cases g1 : a < n <;> by_cases g2 : b < n - min n a
  · have e1 : min n a = a := by omega
    rw [e1] at g2
    have e2 : min (n - a) b = b := by omega
    have HV : Hid (freshV a b c n = .tuple #[.agg #[.int .i64 (a - a), .int .i64 (b - b), .int .i64 c], .int .i64 (a + b)]) := Lib.hid (by rw [freshV, if_pos (by simp [sellB, h1, h2]), e1, e2])
    clear e1 e2
    go_enter Try.func19, Try.ntmps19
    go_wp2_with fail
    refine (icanMove a b c n _).mono ?_
    rintro _ w1 ⟨rfl, hb1⟩
    have i1 : In w.heap.size w w1 := In.step (by (repeat (first | exact In.refl _ | assumption | apply In.alloc | apply In.drewN | apply In.drew | (refine In.step ?_ (by assumption))))) hb1
    have k1 : Blk w1 w.heap.size 36 #[.int .i64 a, .int .i64 b, .int .i64 c] := Blk.step q0 hb1
    have c0 : w1.cell? ⟨w.heap.size, 0, none⟩ = some (.int .i64 a) := k1.cell 0
    have c1 : w1.cell? ⟨w.heap.size, 1, none⟩ = some (.int .i64 b) := k1.cell 1
    have c2 : w1.cell? ⟨w.heap.size, 2, none⟩ = some (.int .i64 c) := k1.cell 2
    have l1 := k1.lt
    have k2 := Blk.step q1 hb1
    have d0 : w1.cell? ⟨w.heap.size + 1, 0, none⟩ = some (.int .i64 0) := k2.cell 0
    have d1 : w1.cell? ⟨w.heap.size + 1, 1, none⟩ = some (.int .i64 0) := k2.cell 1
    have d2 : w1.cell? ⟨w.heap.size + 1, 2, none⟩ = some (.int .i64 0) := k2.cell 2
    have z0 := k2.frozen 0
    have z1 := k2.frozen 1
    have z2 := k2.frozen 2
    have l2 := k2.lt
    clear hb1 q0 q1
    rw [h3]
    go_wp2_with (first | (go_at_call 55; refine (iIn _ _ _ _).mono ?_; rintro e w' ⟨rfl, rfl⟩) | go_in | (go_end0; simp only []; go_at_K))
    exact bodyPost_ret (v := .tuple #[.agg #[.int .i64 (a - a), .int .i64 (b - b), .int .i64 c], .int .i64 (a + b)]) (by simp [results, Try.results19, go_sem, d0, d1, d2]) rfl (Val.mk' (by rw [HV.out]) (by first | exact In.set_ (In.set_ (In.set_ i1 (by simp) _) (by simp) _) (by simp) _ | exact In.drew (In.set_ (In.set_ (In.set_ i1 (by simp) _) (by simp) _) (by simp) _)))
  · have e1 : min n a = a := by omega
    rw [e1] at g2
    have e2 : min (n - a) b = (n - a) := by omega
    have HV : Hid (freshV a b c n = .tuple #[.agg #[.int .i64 (a - a), .int .i64 (b - (n - a)), .int .i64 c], .int .i64 (a + (n - a))]) := Lib.hid (by rw [freshV, if_pos (by simp [sellB, h1, h2]), e1, e2])
    clear e1 e2
    go_enter Try.func19, Try.ntmps19
    go_wp2_with fail
    refine (icanMove a b c n _).mono ?_
    rintro _ w1 ⟨rfl, hb1⟩
    have i1 : In w.heap.size w w1 := In.step (by (repeat (first | exact In.refl _ | assumption | apply In.alloc | apply In.drewN | apply In.drew | (refine In.step ?_ (by assumption))))) hb1
    have k1 : Blk w1 w.heap.size 36 #[.int .i64 a, .int .i64 b, .int .i64 c] := Blk.step q0 hb1
    have c0 : w1.cell? ⟨w.heap.size, 0, none⟩ = some (.int .i64 a) := k1.cell 0
    have c1 : w1.cell? ⟨w.heap.size, 1, none⟩ = some (.int .i64 b) := k1.cell 1
    have c2 : w1.cell? ⟨w.heap.size, 2, none⟩ = some (.int .i64 c) := k1.cell 2
    have l1 := k1.lt
    have k2 := Blk.step q1 hb1
    have d0 : w1.cell? ⟨w.heap.size + 1, 0, none⟩ = some (.int .i64 0) := k2.cell 0
    have d1 : w1.cell? ⟨w.heap.size + 1, 1, none⟩ = some (.int .i64 0) := k2.cell 1
    have d2 : w1.cell? ⟨w.heap.size + 1, 2, none⟩ = some (.int .i64 0) := k2.cell 2
    have z0 := k2.frozen 0
    have z1 := k2.frozen 1
    have z2 := k2.frozen 2
    have l2 := k2.lt
    clear hb1 q0 q1
    rw [h3]
    go_wp2_with (first | (go_at_call 55; refine (iIn _ _ _ _).mono ?_; rintro e w' ⟨rfl, rfl⟩) | go_in | (go_end0; simp only []; go_at_K))
    exact bodyPost_ret (v := .tuple #[.agg #[.int .i64 (a - a), .int .i64 (b - (n - a)), .int .i64 c], .int .i64 (a + (n - a))]) (by simp [results, Try.results19, go_sem, d0, d1, d2]) rfl (Val.mk' (by rw [HV.out]) (by first | exact In.set_ (In.set_ (In.set_ i1 (by simp) _) (by simp) _) (by simp) _ | exact In.drew (In.set_ (In.set_ (In.set_ i1 (by simp) _) (by simp) _) (by simp) _)))
  · exfalso; omega
  · have e1 : min n a = n := by omega
    rw [e1] at g2
    have e2 : min (n - n) b = 0 := by omega
    have HV : Hid (freshV a b c n = .tuple #[.agg #[.int .i64 (a - n), .int .i64 (b - 0), .int .i64 c], .int .i64 (n + 0)]) := Lib.hid (by rw [freshV, if_pos (by simp [sellB, h1, h2]), e1, e2])
    clear e1 e2
    go_enter Try.func19, Try.ntmps19
    go_wp2_with fail
    refine (icanMove a b c n _).mono ?_
    rintro _ w1 ⟨rfl, hb1⟩
    have i1 : In w.heap.size w w1 := In.step (by (repeat (first | exact In.refl _ | assumption | apply In.alloc | apply In.drewN | apply In.drew | (refine In.step ?_ (by assumption))))) hb1
    have k1 : Blk w1 w.heap.size 36 #[.int .i64 a, .int .i64 b, .int .i64 c] := Blk.step q0 hb1
    have c0 : w1.cell? ⟨w.heap.size, 0, none⟩ = some (.int .i64 a) := k1.cell 0
    have c1 : w1.cell? ⟨w.heap.size, 1, none⟩ = some (.int .i64 b) := k1.cell 1
    have c2 : w1.cell? ⟨w.heap.size, 2, none⟩ = some (.int .i64 c) := k1.cell 2
    have l1 := k1.lt
    have k2 := Blk.step q1 hb1
    have d0 : w1.cell? ⟨w.heap.size + 1, 0, none⟩ = some (.int .i64 0) := k2.cell 0
    have d1 : w1.cell? ⟨w.heap.size + 1, 1, none⟩ = some (.int .i64 0) := k2.cell 1
    have d2 : w1.cell? ⟨w.heap.size + 1, 2, none⟩ = some (.int .i64 0) := k2.cell 2
    have z0 := k2.frozen 0
    have z1 := k2.frozen 1
    have z2 := k2.frozen 2
    have l2 := k2.lt
    clear hb1 q0 q1
    rw [h3]
    go_wp2_with (first | (go_at_call 55; refine (iIn _ _ _ _).mono ?_; rintro e w' ⟨rfl, rfl⟩) | go_in | (go_end0; simp only []; go_at_K))
    exact bodyPost_ret (v := .tuple #[.agg #[.int .i64 (a - n), .int .i64 (b - 0), .int .i64 c], .int .i64 (n + 0)]) (by simp [results, Try.results19, go_sem, d0, d1, d2]) rfl (Val.mk' (by rw [HV.out]) (by first | exact In.set_ (In.set_ (In.set_ i1 (by simp) _) (by simp) _) (by simp) _ | exact In.drew (In.set_ (In.set_ (In.set_ i1 (by simp) _) (by simp) _) (by simp) _)))
set_option maxHeartbeats 1000000 in
theorem iSellCheap (a b c n : Int) (w : World) : Calls Try.prog 20 #[.agg #[.int .i64 a, .int .i64 b, .int .i64 c], .int .i64 n] w (Val (cheapV a b c n) w) := by
  have q0 : Blk ((w.alloc (.cells #[.int .i64 a, .int .i64 b, .int .i64 c] 36)).alloc (.cells #[.int .i64 0, .int .i64 0, .int .i64 0] 36)) w.heap.size 36 #[.int .i64 a, .int .i64 b, .int .i64 c] := (Blk.new w _ _).alloc _
  have q1 : Blk ((w.alloc (.cells #[.int .i64 a, .int .i64 b, .int .i64 c] 36)).alloc (.cells #[.int .i64 0, .int .i64 0, .int .i64 0] 36)) (w.heap.size + 1) 36 #[.int .i64 0, .int .i64 0, .int .i64 0] := by have h := Blk.new (w.alloc (.cells #[.int .i64 a, .int .i64 b, .int .i64 c] 36)) 36 #[.int .i64 0, .int .i64 0, .int .i64 0]; simpa using h
  cases h3 : sellB a b c n
  · have HV : Hid (cheapV a b c n = .tuple #[.agg #[.int .i64 a, .int .i64 b, .int .i64 c], .int .i64 (-1)]) := Lib.hid (by simp [cheapV, h3])
    go_enter Try.func20, Try.ntmps20
    go_wp2_with fail
    refine (icanMove a b c n _).mono ?_
    rintro _ w1 ⟨rfl, hb1⟩
    have i1 : In w.heap.size w w1 := In.step (by (repeat (first | exact In.refl _ | assumption | apply In.alloc | apply In.drewN | apply In.drew | (refine In.step ?_ (by assumption))))) hb1
    have k1 : Blk w1 w.heap.size 36 #[.int .i64 a, .int .i64 b, .int .i64 c] := Blk.step q0 hb1
    have c0 : w1.cell? ⟨w.heap.size, 0, none⟩ = some (.int .i64 a) := k1.cell 0
    have c1 : w1.cell? ⟨w.heap.size, 1, none⟩ = some (.int .i64 b) := k1.cell 1
    have c2 : w1.cell? ⟨w.heap.size, 2, none⟩ = some (.int .i64 c) := k1.cell 2
    have l1 := k1.lt
    have k2 := Blk.step q1 hb1
    have d0 : w1.cell? ⟨w.heap.size + 1, 0, none⟩ = some (.int .i64 0) := k2.cell 0
    have d1 : w1.cell? ⟨w.heap.size + 1, 1, none⟩ = some (.int .i64 0) := k2.cell 1
    have d2 : w1.cell? ⟨w.heap.size + 1, 2, none⟩ = some (.int .i64 0) := k2.cell 2
    have z0 := k2.frozen 0
    have z1 := k2.frozen 1
    have z2 := k2.frozen 2
    have l2 := k2.lt
    clear hb1 q0 q1
    rw [h3]
    go_wp2_with (first | (go_at_call 55; refine (iIn _ _ _ _).mono ?_; rintro e w' ⟨rfl, rfl⟩) | go_in | (go_end0; simp only []; go_at_K))
    exact bodyPost_ret (v := .tuple #[.agg #[.int .i64 a, .int .i64 b, .int .i64 c], .int .i64 (-1)]) (by simp [results, Try.results20, go_sem, d0, d1, d2]) rfl (Val.mk' (by rw [HV.out]) (by first | exact In.set_ (In.set_ (In.set_ i1 (by simp) _) (by simp) _) (by simp) _ | exact In.drew (In.set_ (In.set_ (In.set_ i1 (by simp) _) (by simp) _) (by simp) _)))
  have h3' := h3
  simp only [sellB, Bool.and_eq_true] at h3'
  obtain ⟨h1, h2⟩ := h3'
  have HB := rack_in h1
  have HN := inB_tt h2
  by_cases g1 : c < n <;> by_cases g2 : b < n - min n c
  · have e1 : min n c = c := by omega
    rw [e1] at g2
    have e2 : min (n - c) b = b := by omega
    have HV : Hid (cheapV a b c n = .tuple #[.agg #[.int .i64 a, .int .i64 (b - b), .int .i64 (c - c)], .int .i64 (c + b)]) := Lib.hid (by rw [cheapV, if_pos (by simp [sellB, h1, h2]), e1, e2])
    clear e1 e2
    go_enter Try.func20, Try.ntmps20
    go_wp2_with fail
    refine (icanMove a b c n _).mono ?_
    rintro _ w1 ⟨rfl, hb1⟩
    have i1 : In w.heap.size w w1 := In.step (by (repeat (first | exact In.refl _ | assumption | apply In.alloc | apply In.drewN | apply In.drew | (refine In.step ?_ (by assumption))))) hb1
    have k1 : Blk w1 w.heap.size 36 #[.int .i64 a, .int .i64 b, .int .i64 c] := Blk.step q0 hb1
    have c0 : w1.cell? ⟨w.heap.size, 0, none⟩ = some (.int .i64 a) := k1.cell 0
    have c1 : w1.cell? ⟨w.heap.size, 1, none⟩ = some (.int .i64 b) := k1.cell 1
    have c2 : w1.cell? ⟨w.heap.size, 2, none⟩ = some (.int .i64 c) := k1.cell 2
    have l1 := k1.lt
    have k2 := Blk.step q1 hb1
    have d0 : w1.cell? ⟨w.heap.size + 1, 0, none⟩ = some (.int .i64 0) := k2.cell 0
    have d1 : w1.cell? ⟨w.heap.size + 1, 1, none⟩ = some (.int .i64 0) := k2.cell 1
    have d2 : w1.cell? ⟨w.heap.size + 1, 2, none⟩ = some (.int .i64 0) := k2.cell 2
    have z0 := k2.frozen 0
    have z1 := k2.frozen 1
    have z2 := k2.frozen 2
    have l2 := k2.lt
    clear hb1 q0 q1
    rw [h3]
    go_wp2_with (first | (go_at_call 55; refine (iIn _ _ _ _).mono ?_; rintro e w' ⟨rfl, rfl⟩) | go_in | (go_end0; simp only []; go_at_K))
    exact bodyPost_ret (v := .tuple #[.agg #[.int .i64 a, .int .i64 (b - b), .int .i64 (c - c)], .int .i64 (c + b)]) (by simp [results, Try.results20, go_sem, d0, d1, d2]) rfl (Val.mk' (by rw [HV.out]) (by first | exact In.set_ (In.set_ (In.set_ i1 (by simp) _) (by simp) _) (by simp) _ | exact In.drew (In.set_ (In.set_ (In.set_ i1 (by simp) _) (by simp) _) (by simp) _)))
  · have e1 : min n c = c := by omega
    rw [e1] at g2
    have e2 : min (n - c) b = (n - c) := by omega
    have HV : Hid (cheapV a b c n = .tuple #[.agg #[.int .i64 a, .int .i64 (b - (n - c)), .int .i64 (c - c)], .int .i64 (c + (n - c))]) := Lib.hid (by rw [cheapV, if_pos (by simp [sellB, h1, h2]), e1, e2])
    clear e1 e2
    go_enter Try.func20, Try.ntmps20
    go_wp2_with fail
    refine (icanMove a b c n _).mono ?_
    rintro _ w1 ⟨rfl, hb1⟩
    have i1 : In w.heap.size w w1 := In.step (by (repeat (first | exact In.refl _ | assumption | apply In.alloc | apply In.drewN | apply In.drew | (refine In.step ?_ (by assumption))))) hb1
    have k1 : Blk w1 w.heap.size 36 #[.int .i64 a, .int .i64 b, .int .i64 c] := Blk.step q0 hb1
    have c0 : w1.cell? ⟨w.heap.size, 0, none⟩ = some (.int .i64 a) := k1.cell 0
    have c1 : w1.cell? ⟨w.heap.size, 1, none⟩ = some (.int .i64 b) := k1.cell 1
    have c2 : w1.cell? ⟨w.heap.size, 2, none⟩ = some (.int .i64 c) := k1.cell 2
    have l1 := k1.lt
    have k2 := Blk.step q1 hb1
    have d0 : w1.cell? ⟨w.heap.size + 1, 0, none⟩ = some (.int .i64 0) := k2.cell 0
    have d1 : w1.cell? ⟨w.heap.size + 1, 1, none⟩ = some (.int .i64 0) := k2.cell 1
    have d2 : w1.cell? ⟨w.heap.size + 1, 2, none⟩ = some (.int .i64 0) := k2.cell 2
    have z0 := k2.frozen 0
    have z1 := k2.frozen 1
    have z2 := k2.frozen 2
    have l2 := k2.lt
    clear hb1 q0 q1
    rw [h3]
    go_wp2_with (first | (go_at_call 55; refine (iIn _ _ _ _).mono ?_; rintro e w' ⟨rfl, rfl⟩) | go_in | (go_end0; simp only []; go_at_K))
    exact bodyPost_ret (v := .tuple #[.agg #[.int .i64 a, .int .i64 (b - (n - c)), .int .i64 (c - c)], .int .i64 (c + (n - c))]) (by simp [results, Try.results20, go_sem, d0, d1, d2]) rfl (Val.mk' (by rw [HV.out]) (by first | exact In.set_ (In.set_ (In.set_ i1 (by simp) _) (by simp) _) (by simp) _ | exact In.drew (In.set_ (In.set_ (In.set_ i1 (by simp) _) (by simp) _) (by simp) _)))
  · exfalso; omega
  · have e1 : min n c = n := by omega
    rw [e1] at g2
    have e2 : min (n - n) b = 0 := by omega
    have HV : Hid (cheapV a b c n = .tuple #[.agg #[.int .i64 a, .int .i64 (b - 0), .int .i64 (c - n)], .int .i64 (n + 0)]) := Lib.hid (by rw [cheapV, if_pos (by simp [sellB, h1, h2]), e1, e2])
    clear e1 e2
    go_enter Try.func20, Try.ntmps20
    go_wp2_with fail
    refine (icanMove a b c n _).mono ?_
    rintro _ w1 ⟨rfl, hb1⟩
    have i1 : In w.heap.size w w1 := In.step (by (repeat (first | exact In.refl _ | assumption | apply In.alloc | apply In.drewN | apply In.drew | (refine In.step ?_ (by assumption))))) hb1
    have k1 : Blk w1 w.heap.size 36 #[.int .i64 a, .int .i64 b, .int .i64 c] := Blk.step q0 hb1
    have c0 : w1.cell? ⟨w.heap.size, 0, none⟩ = some (.int .i64 a) := k1.cell 0
    have c1 : w1.cell? ⟨w.heap.size, 1, none⟩ = some (.int .i64 b) := k1.cell 1
    have c2 : w1.cell? ⟨w.heap.size, 2, none⟩ = some (.int .i64 c) := k1.cell 2
    have l1 := k1.lt
    have k2 := Blk.step q1 hb1
    have d0 : w1.cell? ⟨w.heap.size + 1, 0, none⟩ = some (.int .i64 0) := k2.cell 0
    have d1 : w1.cell? ⟨w.heap.size + 1, 1, none⟩ = some (.int .i64 0) := k2.cell 1
    have d2 : w1.cell? ⟨w.heap.size + 1, 2, none⟩ = some (.int .i64 0) := k2.cell 2
    have z0 := k2.frozen 0
    have z1 := k2.frozen 1
    have z2 := k2.frozen 2
    have l2 := k2.lt
    clear hb1 q0 q1
    rw [h3]
    go_wp2_with (first | (go_at_call 55; refine (iIn _ _ _ _).mono ?_; rintro e w' ⟨rfl, rfl⟩) | go_in | (go_end0; simp only []; go_at_K))
    exact bodyPost_ret (v := .tuple #[.agg #[.int .i64 a, .int .i64 (b - 0), .int .i64 (c - n)], .int .i64 (n + 0)]) (by simp [results, Try.results20, go_sem, d0, d1, d2]) rfl (Val.mk' (by rw [HV.out]) (by first | exact In.set_ (In.set_ (In.set_ i1 (by simp) _) (by simp) _) (by simp) _ | exact In.drew (In.set_ (In.set_ (In.set_ i1 (by simp) _) (by simp) _) (by simp) _)))
set_option maxHeartbeats 1000000 in
theorem iNextMorning (a b c n : Int) (w : World) : Calls Try.prog 21 #[.agg #[.int .i64 a, .int .i64 b, .int .i64 c], .int .i64 n] w (Val (mornV a b c n) w) := by
  have q0 : Blk ((w.alloc (.cells #[.int .i64 a, .int .i64 b, .int .i64 c] 36)).alloc (.cells #[.int .i64 0, .int .i64 0, .int .i64 0] 36)) w.heap.size 36 #[.int .i64 a, .int .i64 b, .int .i64 c] := (Blk.new w _ _).alloc _
  have q1 : Blk ((w.alloc (.cells #[.int .i64 a, .int .i64 b, .int .i64 c] 36)).alloc (.cells #[.int .i64 0, .int .i64 0, .int .i64 0] 36)) (w.heap.size + 1) 36 #[.int .i64 0, .int .i64 0, .int .i64 0] := by have h := Blk.new (w.alloc (.cells #[.int .i64 a, .int .i64 b, .int .i64 c] 36)) 36 #[.int .i64 0, .int .i64 0, .int .i64 0]; simpa using h
  cases h3 : sellB a b c n
  · have HV : Hid (mornV a b c n = .tuple #[.agg #[.int .i64 a, .int .i64 b, .int .i64 c], .int .i64 (-1)]) := Lib.hid (by simp [mornV, h3])
    go_enter Try.func21, Try.ntmps21
    go_wp2_with fail
    refine (icanMove a b c n _).mono ?_
    rintro _ w1 ⟨rfl, hb1⟩
    have i1 : In w.heap.size w w1 := In.step (by (repeat (first | exact In.refl _ | assumption | apply In.alloc | apply In.drewN | apply In.drew | (refine In.step ?_ (by assumption))))) hb1
    have k1 : Blk w1 w.heap.size 36 #[.int .i64 a, .int .i64 b, .int .i64 c] := Blk.step q0 hb1
    have c0 : w1.cell? ⟨w.heap.size, 0, none⟩ = some (.int .i64 a) := k1.cell 0
    have c1 : w1.cell? ⟨w.heap.size, 1, none⟩ = some (.int .i64 b) := k1.cell 1
    have c2 : w1.cell? ⟨w.heap.size, 2, none⟩ = some (.int .i64 c) := k1.cell 2
    have l1 := k1.lt
    have k2 := Blk.step q1 hb1
    have d0 : w1.cell? ⟨w.heap.size + 1, 0, none⟩ = some (.int .i64 0) := k2.cell 0
    have d1 : w1.cell? ⟨w.heap.size + 1, 1, none⟩ = some (.int .i64 0) := k2.cell 1
    have d2 : w1.cell? ⟨w.heap.size + 1, 2, none⟩ = some (.int .i64 0) := k2.cell 2
    have z0 := k2.frozen 0
    have z1 := k2.frozen 1
    have z2 := k2.frozen 2
    have l2 := k2.lt
    clear hb1 q0 q1
    rw [h3]
    go_wp2_with (first | (go_at_call 55; refine (iIn _ _ _ _).mono ?_; rintro e w' ⟨rfl, rfl⟩) | go_in | (go_end0; simp only []; go_at_K))
    exact bodyPost_ret (v := .tuple #[.agg #[.int .i64 a, .int .i64 b, .int .i64 c], .int .i64 (-1)]) (by simp [results, Try.results21, go_sem, d0, d1, d2]) rfl (Val.mk' (by rw [HV.out]) (by first | exact In.set_ (In.set_ (In.set_ i1 (by simp) _) (by simp) _) (by simp) _ | exact In.drew (In.set_ (In.set_ (In.set_ i1 (by simp) _) (by simp) _) (by simp) _)))
  have h3' := h3
  simp only [sellB, Bool.and_eq_true] at h3'
  obtain ⟨h1, h2⟩ := h3'
  have HB := rack_in h1
  have HN := inB_tt h2
  have HV : Hid (mornV a b c n = .tuple #[.agg #[.int .i64 n, .int .i64 a, .int .i64 b], .int .i64 c]) := Lib.hid (by simp [mornV, sellB, h1, h2])
  go_enter Try.func21, Try.ntmps21
  go_wp2_with fail
  refine (icanMove a b c n _).mono ?_
  rintro _ w1 ⟨rfl, hb1⟩
  have i1 : In w.heap.size w w1 := In.step (by (repeat (first | exact In.refl _ | assumption | apply In.alloc | apply In.drewN | apply In.drew | (refine In.step ?_ (by assumption))))) hb1
  have k1 : Blk w1 w.heap.size 36 #[.int .i64 a, .int .i64 b, .int .i64 c] := Blk.step q0 hb1
  have c0 : w1.cell? ⟨w.heap.size, 0, none⟩ = some (.int .i64 a) := k1.cell 0
  have c1 : w1.cell? ⟨w.heap.size, 1, none⟩ = some (.int .i64 b) := k1.cell 1
  have c2 : w1.cell? ⟨w.heap.size, 2, none⟩ = some (.int .i64 c) := k1.cell 2
  have l1 := k1.lt
  have k2 := Blk.step q1 hb1
  have d0 : w1.cell? ⟨w.heap.size + 1, 0, none⟩ = some (.int .i64 0) := k2.cell 0
  have d1 : w1.cell? ⟨w.heap.size + 1, 1, none⟩ = some (.int .i64 0) := k2.cell 1
  have d2 : w1.cell? ⟨w.heap.size + 1, 2, none⟩ = some (.int .i64 0) := k2.cell 2
  have z0 := k2.frozen 0
  have z1 := k2.frozen 1
  have z2 := k2.frozen 2
  have l2 := k2.lt
  clear hb1 q0 q1
  rw [h3]
  go_wp2_with (first | (go_at_call 55; refine (iIn _ _ _ _).mono ?_; rintro e w' ⟨rfl, rfl⟩) | go_in | (go_end0; simp only []; go_at_K))
  go_region
  go_wp2
  exact bodyPost_ret (v := .tuple #[.agg #[.int .i64 n, .int .i64 a, .int .i64 b], .int .i64 c]) (by simp [results, Try.results21, go_sem, d0, d1, d2]) rfl (Val.mk' (by rw [HV.out]) (by first | exact In.set_ (In.set_ (In.set_ i1 (by simp) _) (by simp) _) (by simp) _ | exact In.drew (In.set_ (In.set_ (In.set_ i1 (by simp) _) (by simp) _) (by simp) _)))
def valueV (a b c p : Int) : Int := if rackB a b c && inB p 0 1000 then a * p + b * (p / 2) + c * (p / 4) else -1
theorem value_in {a b c p : Int} (h1 : rackB a b c = true) (h2 : inB p 0 1000 = true) : 0 ≤ a * p ∧ a * p ≤ 10000000 ∧ 0 ≤ b * (p / 2) ∧ b * (p / 2) ≤ 10000000 ∧ 0 ≤ c * (p / 4) ∧ c * (p / 4) ≤ 10000000 := by
  have hb := rack_in h1
  have hp := inB_tt h2
  have t2 : 0 ≤ p / 2 ∧ p / 2 ≤ p := by omega
  have t4 : 0 ≤ p / 4 ∧ p / 4 ≤ p := by omega
  have m1 := mul_in (a := a) (b := p) (A := 10000) (B := 1000) (by omega) (by omega) (by omega) (by omega)
  have m2 := mul_in (a := b) (b := p / 2) (A := 10000) (B := 1000) (by omega) (by omega) (by omega) (by omega)
  have m3 := mul_in (a := c) (b := p / 4) (A := 10000) (B := 1000) (by omega) (by omega) (by omega) (by omega)
  omega
theorem iValueOf (a b c p : Int) (w : World) : Calls Try.prog 22 #[.agg #[.int .i64 a, .int .i64 b, .int .i64 c], .int .i64 p] w (Val (i64 (valueV a b c p)) w) := by
  have q0 : Blk (w.alloc (.cells #[.int .i64 a, .int .i64 b, .int .i64 c] 36)) w.heap.size 36 #[.int .i64 a, .int .i64 b, .int .i64 c] := Blk.new w _ _
  cases h1 : rackB a b c
  · have HV : Hid (valueV a b c p = -1) := Lib.hid (by simp [valueV, h1])
    go_enter Try.func22, Try.ntmps22
    (go_wp2_with fail; refine (iRackOk a b c _).mono ?_; rintro _ _ ⟨rfl, _⟩)
    rw [h1]
    go_wp2_with (first | (go_at_call 55; refine (iIn _ _ _ _).mono ?_; rintro e w' ⟨rfl, rfl⟩) | go_in | (go_end0; simp only []; go_at_K))
    go_ret
    exact Val.mk' (v_int HV.out.symm) (by (repeat (first | exact In.refl _ | assumption | apply In.alloc | apply In.drewN | apply In.drew | (refine In.step ?_ (by assumption)))))
  cases h2 : inB p 0 1000
  · have HV : Hid (valueV a b c p = -1) := Lib.hid (by simp [valueV, h2])
    go_enter Try.func22, Try.ntmps22
    (go_wp2_with fail; refine (iRackOk a b c _).mono ?_; rintro _ _ ⟨rfl, _⟩)
    rw [h1]
    go_wp2_with (first | (go_at_call 55; refine (iIn _ _ _ _).mono ?_; rintro e w' ⟨rfl, rfl⟩) | go_in | (go_end0; simp only []; go_at_K))
    go_ret
    exact Val.mk' (v_int HV.out.symm) (by (repeat (first | exact In.refl _ | assumption | apply In.alloc | apply In.drewN | apply In.drew | (refine In.step ?_ (by assumption)))))
  have HV : Hid (valueV a b c p = a * p + b * (p / 2) + c * (p / 4)) := Lib.hid (by simp [valueV, h1, h2])
  obtain ⟨m1, m2, m3, m4, m5, m6⟩ := value_in h1 h2
  obtain ⟨p1, p2⟩ := inB_tt h2
  obtain ⟨b1, b2, b3, b4, b5, b6⟩ := rack_in h1
  go_enter Try.func22, Try.ntmps22
  go_wp2_with fail
  refine (iRackOk a b c _).mono ?_
  rintro _ w1 ⟨rfl, hb1⟩
  have i1 : In w.heap.size w w1 := In.step (by (repeat (first | exact In.refl _ | assumption | apply In.alloc | apply In.drewN | apply In.drew | (refine In.step ?_ (by assumption))))) hb1
  have k1 : Blk w1 w.heap.size 36 #[.int .i64 a, .int .i64 b, .int .i64 c] := Blk.step q0 hb1
  have c0 : w1.cell? ⟨w.heap.size, 0, none⟩ = some (.int .i64 a) := k1.cell 0
  have c1 : w1.cell? ⟨w.heap.size, 1, none⟩ = some (.int .i64 b) := k1.cell 1
  have c2 : w1.cell? ⟨w.heap.size, 2, none⟩ = some (.int .i64 c) := k1.cell 2
  have l1 := k1.lt
  clear hb1 q0
  rw [h1]
  go_wp2_with (first | (go_at_call 55; refine (iIn _ _ _ _).mono ?_; rintro e w' ⟨rfl, rfl⟩) | go_in | (go_end0; simp only []; go_at_K))
  go_ret
  exact Val.mk' (v_int HV.out.symm) (by (repeat (first | exact In.refl _ | assumption | apply In.alloc | apply In.drewN | apply In.drew | (refine In.step ?_ (by assumption)))))
end Go.Proofs.Ytmafnlcphohioaa
