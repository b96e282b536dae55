/- Chapter 4: LeavenOk, Feed, TakeLeaven. -/
import Derived.Test.YtkaaebpoljnbnaaIn
namespace Go.Proofs.Ytkaaebpoljnbnaa
open Go.ChangeShapes Go.WideShapes Go.ChangeAt Go.RowKit
set_option linter.unusedVariables false
set_option linter.unusedSimpArgs false

def leavB (g f : Int) : Bool := inB g 0 100000 && inB f 0 1000
def feedB (g f t : Int) : Bool := leavB g f && !(g == 0) && inB t 1 10 && leavB (g * (t + 1)) (f + 1)
def feedV (g f t : Int) : Value := if feedB g f t then .tuple #[.agg #[.int .i64 (g * (t + 1)), .int .i64 (f + 1)], .bool true] else .tuple #[.agg #[.int .i64 g, .int .i64 f], .bool false]
def takeB (g f n m : Int) : Bool := leavB g f && inB n 0 100000 && inB m 0 100000 && decide (m ≤ g - n)
def takeV (g f n m : Int) : Value := if takeB g f n m then .tuple #[.agg #[.int .i64 (g - n), .int .i64 f], .bool true] else .tuple #[.agg #[.int .i64 g, .int .i64 f], .bool false]
theorem sLeavenOk (g f : Int) (w : World) : Calls Try.prog 44 #[.agg #[.int .i64 g, .int .i64 f]] w (Val (.bool (leavB g f)) w) := by
  cases h1 : inB g 0 100000 <;> cases h2 : inB f 0 1000
  all_goals
    go_enter Try.func44, Try.ntmps44
    go_wp2_with (first | (go_at_call 45; refine (sIn _ _ _ _).mono ?_; rintro e w' ⟨rfl, rfl⟩) | (go_at_call 40; refine (iIn _ _ _ _).mono ?_; rintro e w' ⟨rfl, rfl⟩) | go_in | (go_end0; simp only []; go_at_K))
    go_ret
    exact Val.mk' (v_bool (by simp [leavB, h1, h2])) (by (repeat (first | exact In.refl _ | assumption | apply In.alloc | apply In.drewN | apply In.drew | (refine In.step ?_ (by assumption)))))
theorem iLeavenOk (g f : Int) (w : World) : Calls Try.prog 16 #[.agg #[.int .i64 g, .int .i64 f]] w (Val (.bool (leavB g f)) w) := by
  cases h1 : inB g 0 100000 <;> cases h2 : inB f 0 1000
  all_goals
    go_enter Try.func16, Try.ntmps16
    go_wp2_with (first | (go_at_call 45; refine (sIn _ _ _ _).mono ?_; rintro e w' ⟨rfl, rfl⟩) | (go_at_call 40; refine (iIn _ _ _ _).mono ?_; rintro e w' ⟨rfl, rfl⟩) | go_in | (go_end0; simp only []; go_at_K))
    go_ret
    exact Val.mk' (v_bool (by simp [leavB, h1, h2])) (by (repeat (first | exact In.refl _ | assumption | apply In.alloc | apply In.drewN | apply In.drew | (refine In.step ?_ (by assumption)))))
set_option maxHeartbeats 2000000 in
theorem sFeed (g f t : Int) (w : World) : Calls Try.prog 14 #[.agg #[.int .i64 g, .int .i64 f], .int .i64 t] w (Val (feedV g f t) w) := by
  cases h1 : inB g 0 100000
  · have HV : Hid (feedV g f t = .tuple #[.agg #[.int .i64 g, .int .i64 f], .bool false]) := Lib.hid (by simp [feedV, feedB, leavB, h1])
    go_enter Try.func14, Try.ntmps14
    go_wp2_with (first | (go_at_call 45; refine (sIn _ _ _ _).mono ?_; rintro e w' ⟨rfl, rfl⟩) | (go_at_call 40; refine (iIn _ _ _ _).mono ?_; rintro e w' ⟨rfl, rfl⟩) | go_in | (go_end0; simp only []; go_at_K))
    exact bodyPost_ret (v := .tuple #[.agg #[.int .i64 g, .int .i64 f], .bool false]) (by simp [results, Try.results14, go_sem]) rfl (Val.mk' (by rw [HV.out]) (by (repeat (first | exact In.refl _ | assumption | apply In.alloc | apply In.drewN | apply In.drew | (refine In.step ?_ (by assumption))))))
  cases h2 : inB f 0 1000
  · have HV : Hid (feedV g f t = .tuple #[.agg #[.int .i64 g, .int .i64 f], .bool false]) := Lib.hid (by simp [feedV, feedB, leavB, h1, h2])
    go_enter Try.func14, Try.ntmps14
    go_wp2_with (first | (go_at_call 45; refine (sIn _ _ _ _).mono ?_; rintro e w' ⟨rfl, rfl⟩) | (go_at_call 40; refine (iIn _ _ _ _).mono ?_; rintro e w' ⟨rfl, rfl⟩) | go_in | (go_end0; simp only []; go_at_K))
    exact bodyPost_ret (v := .tuple #[.agg #[.int .i64 g, .int .i64 f], .bool false]) (by simp [results, Try.results14, go_sem]) rfl (Val.mk' (by rw [HV.out]) (by (repeat (first | exact In.refl _ | assumption | apply In.alloc | apply In.drewN | apply In.drew | (refine In.step ?_ (by assumption))))))
  obtain ⟨b1, b2⟩ := inB_tt h1
  obtain ⟨b3, b4⟩ := inB_tt h2
  by_cases hz : g = 0
  · subst hz
    have HV : Hid (feedV 0 f t = .tuple #[.agg #[.int .i64 0, .int .i64 f], .bool false]) := Lib.hid (by simp [feedV, feedB])
    go_enter Try.func14, Try.ntmps14
    go_wp2_with (first | (go_at_call 45; refine (sIn _ _ _ _).mono ?_; rintro e w' ⟨rfl, rfl⟩) | (go_at_call 40; refine (iIn _ _ _ _).mono ?_; rintro e w' ⟨rfl, rfl⟩) | go_in | (go_end0; simp only []; go_at_K))
    exact bodyPost_ret (v := .tuple #[.agg #[.int .i64 0, .int .i64 f], .bool false]) (by simp [results, Try.results14, go_sem]) rfl (Val.mk' (by rw [HV.out]) (by (repeat (first | exact In.refl _ | assumption | apply In.alloc | apply In.drewN | apply In.drew | (refine In.step ?_ (by assumption))))))
  have hz' : (g == 0) = false := by simpa using hz
  cases h3 : inB t 1 10
  · have HV : Hid (feedV g f t = .tuple #[.agg #[.int .i64 g, .int .i64 f], .bool false]) := Lib.hid (by simp [feedV, feedB, h3])
    go_enter Try.func14, Try.ntmps14
    go_wp2_with (first | (go_at_call 45; refine (sIn _ _ _ _).mono ?_; rintro e w' ⟨rfl, rfl⟩) | (go_at_call 40; refine (iIn _ _ _ _).mono ?_; rintro e w' ⟨rfl, rfl⟩) | go_in | (go_end0; simp only []; go_at_K))
    exact bodyPost_ret (v := .tuple #[.agg #[.int .i64 g, .int .i64 f], .bool false]) (by simp [results, Try.results14, go_sem]) rfl (Val.mk' (by rw [HV.out]) (by (repeat (first | exact In.refl _ | assumption | apply In.alloc | apply In.drewN | apply In.drew | (refine In.step ?_ (by assumption))))))
  obtain ⟨b5, b6⟩ := inB_tt h3
  obtain ⟨b7, b8⟩ := mul_in (a := g) (b := t + 1) (A := 100000) (B := 11) b1 b2 (by omega) (by omega)
  cases h4 : inB (g * (t + 1)) 0 100000
  · have HV : Hid (feedV g f t = .tuple #[.agg #[.int .i64 g, .int .i64 f], .bool false]) := Lib.hid (by simp [feedV, feedB, leavB, h4])
    go_enter Try.func14, Try.ntmps14
    go_wp2_with (first | (go_at_call 45; refine (sIn _ _ _ _).mono ?_; rintro e w' ⟨rfl, rfl⟩) | (go_at_call 40; refine (iIn _ _ _ _).mono ?_; rintro e w' ⟨rfl, rfl⟩) | go_in | (go_end0; simp only []; go_at_K))
    exact bodyPost_ret (v := .tuple #[.agg #[.int .i64 g, .int .i64 f], .bool false]) (by simp [results, Try.results14, go_sem]) rfl (Val.mk' (by rw [HV.out]) (by (repeat (first | exact In.refl _ | assumption | apply In.alloc | apply In.drewN | apply In.drew | (refine In.step ?_ (by assumption))))))
  cases h5 : inB (f + 1) 0 1000
  · have HV : Hid (feedV g f t = .tuple #[.agg #[.int .i64 g, .int .i64 f], .bool false]) := Lib.hid (by simp [feedV, feedB, leavB, h5])
    go_enter Try.func14, Try.ntmps14
    go_wp2_with (first | (go_at_call 45; refine (sIn _ _ _ _).mono ?_; rintro e w' ⟨rfl, rfl⟩) | (go_at_call 40; refine (iIn _ _ _ _).mono ?_; rintro e w' ⟨rfl, rfl⟩) | go_in | (go_end0; simp only []; go_at_K))
    exact bodyPost_ret (v := .tuple #[.agg #[.int .i64 g, .int .i64 f], .bool false]) (by simp [results, Try.results14, go_sem]) rfl (Val.mk' (by rw [HV.out]) (by (repeat (first | exact In.refl _ | assumption | apply In.alloc | apply In.drewN | apply In.drew | (refine In.step ?_ (by assumption))))))
  · have HV : Hid (feedV g f t = .tuple #[.agg #[.int .i64 (g * (t + 1)), .int .i64 (f + 1)], .bool true]) := Lib.hid (by simp [feedV, feedB, leavB, h1, h2, h3, h4, h5, hz'])
    go_enter Try.func14, Try.ntmps14
    go_wp2_with (first | (go_at_call 45; refine (sIn _ _ _ _).mono ?_; rintro e w' ⟨rfl, rfl⟩) | (go_at_call 40; refine (iIn _ _ _ _).mono ?_; rintro e w' ⟨rfl, rfl⟩) | go_in | (go_end0; simp only []; go_at_K))
    exact bodyPost_ret (v := .tuple #[.agg #[.int .i64 (g * (t + 1)), .int .i64 (f + 1)], .bool true]) (by simp [results, Try.results14, go_sem]) rfl (Val.mk' (by rw [HV.out]) (by (repeat (first | exact In.refl _ | assumption | apply In.alloc | apply In.drewN | apply In.drew | (refine In.step ?_ (by assumption))))))
set_option maxHeartbeats 2000000 in
theorem iFeed (g f t : Int) (w : World) : Calls Try.prog 10 #[.agg #[.int .i64 g, .int .i64 f], .int .i64 t] w (Val (feedV g f t) w) := by
  cases h1 : inB g 0 100000
  · have HV : Hid (feedV g f t = .tuple #[.agg #[.int .i64 g, .int .i64 f], .bool false]) := Lib.hid (by simp [feedV, feedB, leavB, h1])
    go_enter Try.func10, Try.ntmps10
    go_wp2_with (first | (go_at_call 45; refine (sIn _ _ _ _).mono ?_; rintro e w' ⟨rfl, rfl⟩) | (go_at_call 40; refine (iIn _ _ _ _).mono ?_; rintro e w' ⟨rfl, rfl⟩) | go_in | (go_end0; simp only []; go_at_K))
    exact bodyPost_ret (v := .tuple #[.agg #[.int .i64 g, .int .i64 f], .bool false]) (by simp [results, Try.results10, go_sem]) rfl (Val.mk' (by rw [HV.out]) (by (repeat (first | exact In.refl _ | assumption | apply In.alloc | apply In.drewN | apply In.drew | (refine In.step ?_ (by assumption))))))
  cases h2 : inB f 0 1000
  · have HV : Hid (feedV g f t = .tuple #[.agg #[.int .i64 g, .int .i64 f], .bool false]) := Lib.hid (by simp [feedV, feedB, leavB, h1, h2])
    go_enter Try.func10, Try.ntmps10
    go_wp2_with (first | (go_at_call 45; refine (sIn _ _ _ _).mono ?_; rintro e w' ⟨rfl, rfl⟩) | (go_at_call 40; refine (iIn _ _ _ _).mono ?_; rintro e w' ⟨rfl, rfl⟩) | go_in | (go_end0; simp only []; go_at_K))
    exact bodyPost_ret (v := .tuple #[.agg #[.int .i64 g, .int .i64 f], .bool false]) (by simp [results, Try.results10, go_sem]) rfl (Val.mk' (by rw [HV.out]) (by (repeat (first | exact In.refl _ | assumption | apply In.alloc | apply In.drewN | apply In.drew | (refine In.step ?_ (by assumption))))))
  obtain ⟨b1, b2⟩ := inB_tt h1
  obtain ⟨b3, b4⟩ := inB_tt h2
  by_cases hz : g = 0
  · subst hz
    have HV : Hid (feedV 0 f t = .tuple #[.agg #[.int .i64 0, .int .i64 f], .bool false]) := Lib.hid (by simp [feedV, feedB])
    go_enter Try.func10, Try.ntmps10
    go_wp2_with (first | (go_at_call 45; refine (sIn _ _ _ _).mono ?_; rintro e w' ⟨rfl, rfl⟩) | (go_at_call 40; refine (iIn _ _ _ _).mono ?_; rintro e w' ⟨rfl, rfl⟩) | go_in | (go_end0; simp only []; go_at_K))
    exact bodyPost_ret (v := .tuple #[.agg #[.int .i64 0, .int .i64 f], .bool false]) (by simp [results, Try.results10, go_sem]) rfl (Val.mk' (by rw [HV.out]) (by (repeat (first | exact In.refl _ | assumption | apply In.alloc | apply In.drewN | apply In.drew | (refine In.step ?_ (by assumption))))))
  have hz' : (g == 0) = false := by simpa using hz
  cases h3 : inB t 1 10
  · have HV : Hid (feedV g f t = .tuple #[.agg #[.int .i64 g, .int .i64 f], .bool false]) := Lib.hid (by simp [feedV, feedB, h3])
    go_enter Try.func10, Try.ntmps10
    go_wp2_with (first | (go_at_call 45; refine (sIn _ _ _ _).mono ?_; rintro e w' ⟨rfl, rfl⟩) | (go_at_call 40; refine (iIn _ _ _ _).mono ?_; rintro e w' ⟨rfl, rfl⟩) | go_in | (go_end0; simp only []; go_at_K))
    exact bodyPost_ret (v := .tuple #[.agg #[.int .i64 g, .int .i64 f], .bool false]) (by simp [results, Try.results10, go_sem]) rfl (Val.mk' (by rw [HV.out]) (by (repeat (first | exact In.refl _ | assumption | apply In.alloc | apply In.drewN | apply In.drew | (refine In.step ?_ (by assumption))))))
  obtain ⟨b5, b6⟩ := inB_tt h3
  obtain ⟨b7, b8⟩ := mul_in (a := g) (b := t + 1) (A := 100000) (B := 11) b1 b2 (by omega) (by omega)
  cases h4 : inB (g * (t + 1)) 0 100000
  · have HV : Hid (feedV g f t = .tuple #[.agg #[.int .i64 g, .int .i64 f], .bool false]) := Lib.hid (by simp [feedV, feedB, leavB, h4])
    go_enter Try.func10, Try.ntmps10
    go_wp2_with (first | (go_at_call 45; refine (sIn _ _ _ _).mono ?_; rintro e w' ⟨rfl, rfl⟩) | (go_at_call 40; refine (iIn _ _ _ _).mono ?_; rintro e w' ⟨rfl, rfl⟩) | go_in | (go_end0; simp only []; go_at_K))
    exact bodyPost_ret (v := .tuple #[.agg #[.int .i64 g, .int .i64 f], .bool false]) (by simp [results, Try.results10, go_sem]) rfl (Val.mk' (by rw [HV.out]) (by (repeat (first | exact In.refl _ | assumption | apply In.alloc | apply In.drewN | apply In.drew | (refine In.step ?_ (by assumption))))))
  cases h5 : inB (f + 1) 0 1000
  · have HV : Hid (feedV g f t = .tuple #[.agg #[.int .i64 g, .int .i64 f], .bool false]) := Lib.hid (by simp [feedV, feedB, leavB, h5])
    go_enter Try.func10, Try.ntmps10
    go_wp2_with (first | (go_at_call 45; refine (sIn _ _ _ _).mono ?_; rintro e w' ⟨rfl, rfl⟩) | (go_at_call 40; refine (iIn _ _ _ _).mono ?_; rintro e w' ⟨rfl, rfl⟩) | go_in | (go_end0; simp only []; go_at_K))
    exact bodyPost_ret (v := .tuple #[.agg #[.int .i64 g, .int .i64 f], .bool false]) (by simp [results, Try.results10, go_sem]) rfl (Val.mk' (by rw [HV.out]) (by (repeat (first | exact In.refl _ | assumption | apply In.alloc | apply In.drewN | apply In.drew | (refine In.step ?_ (by assumption))))))
  · have HV : Hid (feedV g f t = .tuple #[.agg #[.int .i64 (g * (t + 1)), .int .i64 (f + 1)], .bool true]) := Lib.hid (by simp [feedV, feedB, leavB, h1, h2, h3, h4, h5, hz'])
    go_enter Try.func10, Try.ntmps10
    go_wp2_with (first | (go_at_call 45; refine (sIn _ _ _ _).mono ?_; rintro e w' ⟨rfl, rfl⟩) | (go_at_call 40; refine (iIn _ _ _ _).mono ?_; rintro e w' ⟨rfl, rfl⟩) | go_in | (go_end0; simp only []; go_at_K))
    exact bodyPost_ret (v := .tuple #[.agg #[.int .i64 (g * (t + 1)), .int .i64 (f + 1)], .bool true]) (by simp [results, Try.results10, go_sem]) rfl (Val.mk' (by rw [HV.out]) (by (repeat (first | exact In.refl _ | assumption | apply In.alloc | apply In.drewN | apply In.drew | (refine In.step ?_ (by assumption))))))
set_option maxHeartbeats 2000000 in
theorem sTakeLeaven (g f n m : Int) (w : World) : Calls Try.prog 15 #[.agg #[.int .i64 g, .int .i64 f], .int .i64 n, .int .i64 m] w (Val (takeV g f n m) w) := by
  cases h1 : inB g 0 100000
  · have HV : Hid (takeV g f n m = .tuple #[.agg #[.int .i64 g, .int .i64 f], .bool false]) := Lib.hid (by simp [takeV, takeB, leavB, h1])
    go_enter Try.func15, Try.ntmps15
    go_wp2_with (first | (go_at_call 45; refine (sIn _ _ _ _).mono ?_; rintro e w' ⟨rfl, rfl⟩) | (go_at_call 40; refine (iIn _ _ _ _).mono ?_; rintro e w' ⟨rfl, rfl⟩) | go_in | (go_end0; simp only []; go_at_K))
    all_goals exact bodyPost_ret (v := .tuple #[.agg #[.int .i64 g, .int .i64 f], .bool false]) (by simp [results, Try.results15, go_sem]) rfl (Val.mk' (by rw [HV.out]) (by (repeat (first | exact In.refl _ | assumption | apply In.alloc | apply In.drewN | apply In.drew | (refine In.step ?_ (by assumption))))))
  cases h2 : inB f 0 1000
  · have HV : Hid (takeV g f n m = .tuple #[.agg #[.int .i64 g, .int .i64 f], .bool false]) := Lib.hid (by simp [takeV, takeB, leavB, h2])
    go_enter Try.func15, Try.ntmps15
    go_wp2_with (first | (go_at_call 45; refine (sIn _ _ _ _).mono ?_; rintro e w' ⟨rfl, rfl⟩) | (go_at_call 40; refine (iIn _ _ _ _).mono ?_; rintro e w' ⟨rfl, rfl⟩) | go_in | (go_end0; simp only []; go_at_K))
    all_goals exact bodyPost_ret (v := .tuple #[.agg #[.int .i64 g, .int .i64 f], .bool false]) (by simp [results, Try.results15, go_sem]) rfl (Val.mk' (by rw [HV.out]) (by (repeat (first | exact In.refl _ | assumption | apply In.alloc | apply In.drewN | apply In.drew | (refine In.step ?_ (by assumption))))))
  cases h3 : inB n 0 100000
  · have HV : Hid (takeV g f n m = .tuple #[.agg #[.int .i64 g, .int .i64 f], .bool false]) := Lib.hid (by simp [takeV, takeB, leavB, h3])
    go_enter Try.func15, Try.ntmps15
    go_wp2_with (first | (go_at_call 45; refine (sIn _ _ _ _).mono ?_; rintro e w' ⟨rfl, rfl⟩) | (go_at_call 40; refine (iIn _ _ _ _).mono ?_; rintro e w' ⟨rfl, rfl⟩) | go_in | (go_end0; simp only []; go_at_K))
    all_goals exact bodyPost_ret (v := .tuple #[.agg #[.int .i64 g, .int .i64 f], .bool false]) (by simp [results, Try.results15, go_sem]) rfl (Val.mk' (by rw [HV.out]) (by (repeat (first | exact In.refl _ | assumption | apply In.alloc | apply In.drewN | apply In.drew | (refine In.step ?_ (by assumption))))))
  cases h4 : inB m 0 100000
  · have HV : Hid (takeV g f n m = .tuple #[.agg #[.int .i64 g, .int .i64 f], .bool false]) := Lib.hid (by simp [takeV, takeB, leavB, h4])
    go_enter Try.func15, Try.ntmps15
    go_wp2_with (first | (go_at_call 45; refine (sIn _ _ _ _).mono ?_; rintro e w' ⟨rfl, rfl⟩) | (go_at_call 40; refine (iIn _ _ _ _).mono ?_; rintro e w' ⟨rfl, rfl⟩) | go_in | (go_end0; simp only []; go_at_K))
    all_goals exact bodyPost_ret (v := .tuple #[.agg #[.int .i64 g, .int .i64 f], .bool false]) (by simp [results, Try.results15, go_sem]) rfl (Val.mk' (by rw [HV.out]) (by (repeat (first | exact In.refl _ | assumption | apply In.alloc | apply In.drewN | apply In.drew | (refine In.step ?_ (by assumption))))))
  obtain ⟨b1, b2⟩ := inB_tt h1
  obtain ⟨b3, b4⟩ := inB_tt h2
  obtain ⟨b5, b6⟩ := inB_tt h3
  obtain ⟨b7, b8⟩ := inB_tt h4
  by_cases h5 : g - n < m
  · have HV : Hid (takeV g f n m = .tuple #[.agg #[.int .i64 g, .int .i64 f], .bool false]) := Lib.hid (by simp [takeV, takeB]; omega)
    go_enter Try.func15, Try.ntmps15
    go_wp2_with (first | (go_at_call 45; refine (sIn _ _ _ _).mono ?_; rintro e w' ⟨rfl, rfl⟩) | (go_at_call 40; refine (iIn _ _ _ _).mono ?_; rintro e w' ⟨rfl, rfl⟩) | go_in | (go_end0; simp only []; go_at_K))
    exact bodyPost_ret (v := .tuple #[.agg #[.int .i64 g, .int .i64 f], .bool false]) (by simp [results, Try.results15, go_sem]) rfl (Val.mk' (by rw [HV.out]) (by (repeat (first | exact In.refl _ | assumption | apply In.alloc | apply In.drewN | apply In.drew | (refine In.step ?_ (by assumption))))))
  · have HV : Hid (takeV g f n m = .tuple #[.agg #[.int .i64 (g - n), .int .i64 f], .bool true]) := Lib.hid (by simp [takeV, takeB, leavB, h1, h2, h3, h4]; omega)
    go_enter Try.func15, Try.ntmps15
    go_wp2_with (first | (go_at_call 45; refine (sIn _ _ _ _).mono ?_; rintro e w' ⟨rfl, rfl⟩) | (go_at_call 40; refine (iIn _ _ _ _).mono ?_; rintro e w' ⟨rfl, rfl⟩) | go_in | (go_end0; simp only []; go_at_K))
    exact bodyPost_ret (v := .tuple #[.agg #[.int .i64 (g - n), .int .i64 f], .bool true]) (by simp [results, Try.results15, go_sem]) rfl (Val.mk' (by rw [HV.out]) (by (repeat (first | exact In.refl _ | assumption | apply In.alloc | apply In.drewN | apply In.drew | (refine In.step ?_ (by assumption))))))
set_option maxHeartbeats 2000000 in
theorem iTakeLeaven (g f n m : Int) (w : World) : Calls Try.prog 12 #[.agg #[.int .i64 g, .int .i64 f], .int .i64 n, .int .i64 m] w (Val (takeV g f n m) w) := by
  cases h1 : inB g 0 100000
  · have HV : Hid (takeV g f n m = .tuple #[.agg #[.int .i64 g, .int .i64 f], .bool false]) := Lib.hid (by simp [takeV, takeB, leavB, h1])
    go_enter Try.func12, Try.ntmps12
    go_wp2_with (first | (go_at_call 45; refine (sIn _ _ _ _).mono ?_; rintro e w' ⟨rfl, rfl⟩) | (go_at_call 40; refine (iIn _ _ _ _).mono ?_; rintro e w' ⟨rfl, rfl⟩) | go_in | (go_end0; simp only []; go_at_K))
    all_goals exact bodyPost_ret (v := .tuple #[.agg #[.int .i64 g, .int .i64 f], .bool false]) (by simp [results, Try.results12, go_sem]) rfl (Val.mk' (by rw [HV.out]) (by (repeat (first | exact In.refl _ | assumption | apply In.alloc | apply In.drewN | apply In.drew | (refine In.step ?_ (by assumption))))))
  cases h2 : inB f 0 1000
  · have HV : Hid (takeV g f n m = .tuple #[.agg #[.int .i64 g, .int .i64 f], .bool false]) := Lib.hid (by simp [takeV, takeB, leavB, h2])
    go_enter Try.func12, Try.ntmps12
    go_wp2_with (first | (go_at_call 45; refine (sIn _ _ _ _).mono ?_; rintro e w' ⟨rfl, rfl⟩) | (go_at_call 40; refine (iIn _ _ _ _).mono ?_; rintro e w' ⟨rfl, rfl⟩) | go_in | (go_end0; simp only []; go_at_K))
    all_goals exact bodyPost_ret (v := .tuple #[.agg #[.int .i64 g, .int .i64 f], .bool false]) (by simp [results, Try.results12, go_sem]) rfl (Val.mk' (by rw [HV.out]) (by (repeat (first | exact In.refl _ | assumption | apply In.alloc | apply In.drewN | apply In.drew | (refine In.step ?_ (by assumption))))))
  cases h3 : inB n 0 100000
  · have HV : Hid (takeV g f n m = .tuple #[.agg #[.int .i64 g, .int .i64 f], .bool false]) := Lib.hid (by simp [takeV, takeB, leavB, h3])
    go_enter Try.func12, Try.ntmps12
    go_wp2_with (first | (go_at_call 45; refine (sIn _ _ _ _).mono ?_; rintro e w' ⟨rfl, rfl⟩) | (go_at_call 40; refine (iIn _ _ _ _).mono ?_; rintro e w' ⟨rfl, rfl⟩) | go_in | (go_end0; simp only []; go_at_K))
    all_goals exact bodyPost_ret (v := .tuple #[.agg #[.int .i64 g, .int .i64 f], .bool false]) (by simp [results, Try.results12, go_sem]) rfl (Val.mk' (by rw [HV.out]) (by (repeat (first | exact In.refl _ | assumption | apply In.alloc | apply In.drewN | apply In.drew | (refine In.step ?_ (by assumption))))))
  cases h4 : inB m 0 100000
  · have HV : Hid (takeV g f n m = .tuple #[.agg #[.int .i64 g, .int .i64 f], .bool false]) := Lib.hid (by simp [takeV, takeB, leavB, h4])
    go_enter Try.func12, Try.ntmps12
    go_wp2_with (first | (go_at_call 45; refine (sIn _ _ _ _).mono ?_; rintro e w' ⟨rfl, rfl⟩) | (go_at_call 40; refine (iIn _ _ _ _).mono ?_; rintro e w' ⟨rfl, rfl⟩) | go_in | (go_end0; simp only []; go_at_K))
    all_goals exact bodyPost_ret (v := .tuple #[.agg #[.int .i64 g, .int .i64 f], .bool false]) (by simp [results, Try.results12, go_sem]) rfl (Val.mk' (by rw [HV.out]) (by (repeat (first | exact In.refl _ | assumption | apply In.alloc | apply In.drewN | apply In.drew | (refine In.step ?_ (by assumption))))))
  obtain ⟨b1, b2⟩ := inB_tt h1
  obtain ⟨b3, b4⟩ := inB_tt h2
  obtain ⟨b5, b6⟩ := inB_tt h3
  obtain ⟨b7, b8⟩ := inB_tt h4
  by_cases h5 : g - n < m
  · have HV : Hid (takeV g f n m = .tuple #[.agg #[.int .i64 g, .int .i64 f], .bool false]) := Lib.hid (by simp [takeV, takeB]; omega)
    go_enter Try.func12, Try.ntmps12
    go_wp2_with (first | (go_at_call 45; refine (sIn _ _ _ _).mono ?_; rintro e w' ⟨rfl, rfl⟩) | (go_at_call 40; refine (iIn _ _ _ _).mono ?_; rintro e w' ⟨rfl, rfl⟩) | go_in | (go_end0; simp only []; go_at_K))
    exact bodyPost_ret (v := .tuple #[.agg #[.int .i64 g, .int .i64 f], .bool false]) (by simp [results, Try.results12, go_sem]) rfl (Val.mk' (by rw [HV.out]) (by (repeat (first | exact In.refl _ | assumption | apply In.alloc | apply In.drewN | apply In.drew | (refine In.step ?_ (by assumption))))))
  · have HV : Hid (takeV g f n m = .tuple #[.agg #[.int .i64 (g - n), .int .i64 f], .bool true]) := Lib.hid (by simp [takeV, takeB, leavB, h1, h2, h3, h4]; omega)
    go_enter Try.func12, Try.ntmps12
    go_wp2_with (first | (go_at_call 45; refine (sIn _ _ _ _).mono ?_; rintro e w' ⟨rfl, rfl⟩) | (go_at_call 40; refine (iIn _ _ _ _).mono ?_; rintro e w' ⟨rfl, rfl⟩) | go_in | (go_end0; simp only []; go_at_K))
    exact bodyPost_ret (v := .tuple #[.agg #[.int .i64 (g - n), .int .i64 f], .bool true]) (by simp [results, Try.results12, go_sem]) rfl (Val.mk' (by rw [HV.out]) (by (repeat (first | exact In.refl _ | assumption | apply In.alloc | apply In.drewN | apply In.drew | (refine In.step ?_ (by assumption))))))
end Go.Proofs.Ytkaaebpoljnbnaa
