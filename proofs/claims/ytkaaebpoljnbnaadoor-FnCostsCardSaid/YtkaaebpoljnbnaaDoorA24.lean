/- Chapter 24: AddCosts. -/
import Derived.Test.YtkaaebpoljnbnaaDoorC24
namespace Go.Proofs.YtkaaebpoljnbnaaDoor
open Go.ChangeShapes Go.WideShapes Go.ChangeAt Go.RowKit
set_option linter.unusedVariables false
set_option linter.unusedSimpArgs false

set_option maxHeartbeats 2000000 in
theorem iAddCosts (a b c d e f : Int) (w : World) : Calls Tryd.prog 11 #[.agg #[.int .i64 a, .int .i64 b, .int .i64 c], .agg #[.int .i64 d, .int .i64 e, .int .i64 f]] w (Val (addV a b c d e f) w) := by
  have q_A : Blk ((((w.alloc (.cells #[.int .i64 a, .int .i64 b, .int .i64 c] 25)).alloc (.cells #[.int .i64 d, .int .i64 e, .int .i64 f] 25)).alloc (.cells #[.int .i64 0, .int .i64 0, .int .i64 0] 25)).alloc (.cells #[.int .i64 (wrap64 (a + d)), .int .i64 (wrap64 (b + e)), .int .i64 (wrap64 (c + f))] 25)) w.heap.size 25 #[.int .i64 a, .int .i64 b, .int .i64 c] := (((Blk.new w _ _).alloc _).alloc _).alloc _
  have q_B : Blk ((((w.alloc (.cells #[.int .i64 a, .int .i64 b, .int .i64 c] 25)).alloc (.cells #[.int .i64 d, .int .i64 e, .int .i64 f] 25)).alloc (.cells #[.int .i64 0, .int .i64 0, .int .i64 0] 25)).alloc (.cells #[.int .i64 (wrap64 (a + d)), .int .i64 (wrap64 (b + e)), .int .i64 (wrap64 (c + f))] 25)) (w.heap.size + 1) 25 #[.int .i64 d, .int .i64 e, .int .i64 f] := ((show Blk ((w.alloc (.cells #[.int .i64 a, .int .i64 b, .int .i64 c] 25)).alloc (.cells #[.int .i64 d, .int .i64 e, .int .i64 f] 25)) (w.heap.size + 1) _ _ by have h := Blk.new (w.alloc (.cells #[.int .i64 a, .int .i64 b, .int .i64 c] 25)) 25 #[.int .i64 d, .int .i64 e, .int .i64 f]; simpa using h).alloc _).alloc _
  have q_R : Blk ((((w.alloc (.cells #[.int .i64 a, .int .i64 b, .int .i64 c] 25)).alloc (.cells #[.int .i64 d, .int .i64 e, .int .i64 f] 25)).alloc (.cells #[.int .i64 0, .int .i64 0, .int .i64 0] 25)).alloc (.cells #[.int .i64 (wrap64 (a + d)), .int .i64 (wrap64 (b + e)), .int .i64 (wrap64 (c + f))] 25)) (w.heap.size + 1 + 1) 25 #[.int .i64 0, .int .i64 0, .int .i64 0] := (show Blk (((w.alloc (.cells #[.int .i64 a, .int .i64 b, .int .i64 c] 25)).alloc (.cells #[.int .i64 d, .int .i64 e, .int .i64 f] 25)).alloc (.cells #[.int .i64 0, .int .i64 0, .int .i64 0] 25)) (w.heap.size + 1 + 1) _ _ by have h := Blk.new ((w.alloc (.cells #[.int .i64 a, .int .i64 b, .int .i64 c] 25)).alloc (.cells #[.int .i64 d, .int .i64 e, .int .i64 f] 25)) 25 #[.int .i64 0, .int .i64 0, .int .i64 0]; simpa using h).alloc _
  have q_O : Blk ((((w.alloc (.cells #[.int .i64 a, .int .i64 b, .int .i64 c] 25)).alloc (.cells #[.int .i64 d, .int .i64 e, .int .i64 f] 25)).alloc (.cells #[.int .i64 0, .int .i64 0, .int .i64 0] 25)).alloc (.cells #[.int .i64 (wrap64 (a + d)), .int .i64 (wrap64 (b + e)), .int .i64 (wrap64 (c + f))] 25)) (w.heap.size + 1 + 1 + 1) 25 #[.int .i64 (wrap64 (a + d)), .int .i64 (wrap64 (b + e)), .int .i64 (wrap64 (c + f))] := by have h := Blk.new (((w.alloc (.cells #[.int .i64 a, .int .i64 b, .int .i64 c] 25)).alloc (.cells #[.int .i64 d, .int .i64 e, .int .i64 f] 25)).alloc (.cells #[.int .i64 0, .int .i64 0, .int .i64 0] 25)) 25 #[.int .i64 (wrap64 (a + d)), .int .i64 (wrap64 (b + e)), .int .i64 (wrap64 (c + f))]; simpa using h
  go_enter Tryd.func11, Tryd.ntmps11
  go_wp2_with fail
  refine (iCostOk a b c _).mono ?_
  rintro _ w_1 ⟨rfl, hb_1⟩
  have i_1 : In w.heap.size w w_1 := In.step (by (repeat (first | exact In.refl _ | assumption | apply In.alloc | apply In.drewN | apply In.drew | (refine In.step ?_ (by assumption))))) hb_1
  have k_1_A : Blk w_1 (w.heap.size) 25 #[.int .i64 a, .int .i64 b, .int .i64 c] := Blk.step q_A hb_1
  have c_1_A_0 : w_1.cell? ⟨w.heap.size, 0, none⟩ = some (.int .i64 a) := k_1_A.cell 0
  have c_1_A_1 : w_1.cell? ⟨w.heap.size, 1, none⟩ = some (.int .i64 b) := k_1_A.cell 1
  have c_1_A_2 : w_1.cell? ⟨w.heap.size, 2, none⟩ = some (.int .i64 c) := k_1_A.cell 2
  have l_1_A := k_1_A.lt
  have k_1_B : Blk w_1 (w.heap.size + 1) 25 #[.int .i64 d, .int .i64 e, .int .i64 f] := Blk.step q_B hb_1
  have c_1_B_0 : w_1.cell? ⟨w.heap.size + 1, 0, none⟩ = some (.int .i64 d) := k_1_B.cell 0
  have c_1_B_1 : w_1.cell? ⟨w.heap.size + 1, 1, none⟩ = some (.int .i64 e) := k_1_B.cell 1
  have c_1_B_2 : w_1.cell? ⟨w.heap.size + 1, 2, none⟩ = some (.int .i64 f) := k_1_B.cell 2
  have l_1_B := k_1_B.lt
  have k_1_R : Blk w_1 (w.heap.size + 1 + 1) 25 #[.int .i64 0, .int .i64 0, .int .i64 0] := Blk.step q_R hb_1
  have c_1_R_0 : w_1.cell? ⟨w.heap.size + 1 + 1, 0, none⟩ = some (.int .i64 0) := k_1_R.cell 0
  have c_1_R_1 : w_1.cell? ⟨w.heap.size + 1 + 1, 1, none⟩ = some (.int .i64 0) := k_1_R.cell 1
  have c_1_R_2 : w_1.cell? ⟨w.heap.size + 1 + 1, 2, none⟩ = some (.int .i64 0) := k_1_R.cell 2
  have z_1_0 := k_1_R.frozen 0
  have z_1_1 := k_1_R.frozen 1
  have z_1_2 := k_1_R.frozen 2
  have l_1_R := k_1_R.lt
  have k_1_O : Blk w_1 (w.heap.size + 1 + 1 + 1) 25 #[.int .i64 (wrap64 (a + d)), .int .i64 (wrap64 (b + e)), .int .i64 (wrap64 (c + f))] := Blk.step q_O hb_1
  have c_1_O_0 : w_1.cell? ⟨w.heap.size + 1 + 1 + 1, 0, none⟩ = some (.int .i64 (wrap64 (a + d))) := k_1_O.cell 0
  have c_1_O_1 : w_1.cell? ⟨w.heap.size + 1 + 1 + 1, 1, none⟩ = some (.int .i64 (wrap64 (b + e))) := k_1_O.cell 1
  have c_1_O_2 : w_1.cell? ⟨w.heap.size + 1 + 1 + 1, 2, none⟩ = some (.int .i64 (wrap64 (c + f))) := k_1_O.cell 2
  have l_1_O := k_1_O.lt
  clear hb_1 q_A q_B q_R q_O
  cases h1 : costB a b c
  · have HV : Hid (addV a b c d e f = .tuple #[.agg #[.int .i64 0, .int .i64 0, .int .i64 0], .bool false]) := Lib.hid (by simp [addV, addB, h1])
    go_wp2
    exact bodyPost_ret (v := .tuple #[.agg #[.int .i64 0, .int .i64 0, .int .i64 0], .bool false]) (by simp [results, Tryd.results11, go_sem, c_1_R_0, c_1_R_1, c_1_R_2]) rfl (Val.mk' (by rw [HV.out]) (by first | exact i_1 | exact In.set_ (In.set_ (In.set_ i_1 (by simp; omega) _) (by simp; omega) _) (by simp; omega) _ | exact In.drew (In.set_ (In.set_ (In.set_ i_1 (by simp; omega) _) (by simp; omega) _) (by simp; omega) _)))
  go_wp2_with fail
  refine (iCostOk d e f _).mono ?_
  rintro _ w_2 ⟨rfl, hb_2⟩
  have i_2 : In w.heap.size w w_2 := In.step (by (repeat (first | exact In.refl _ | assumption | apply In.alloc | apply In.drewN | apply In.drew | (refine In.step ?_ (by assumption))))) hb_2
  have k_2_A : Blk w_2 (w.heap.size) 25 #[.int .i64 a, .int .i64 b, .int .i64 c] := Blk.step k_1_A hb_2
  have c_2_A_0 : w_2.cell? ⟨w.heap.size, 0, none⟩ = some (.int .i64 a) := k_2_A.cell 0
  have c_2_A_1 : w_2.cell? ⟨w.heap.size, 1, none⟩ = some (.int .i64 b) := k_2_A.cell 1
  have c_2_A_2 : w_2.cell? ⟨w.heap.size, 2, none⟩ = some (.int .i64 c) := k_2_A.cell 2
  have l_2_A := k_2_A.lt
  have k_2_B : Blk w_2 (w.heap.size + 1) 25 #[.int .i64 d, .int .i64 e, .int .i64 f] := Blk.step k_1_B hb_2
  have c_2_B_0 : w_2.cell? ⟨w.heap.size + 1, 0, none⟩ = some (.int .i64 d) := k_2_B.cell 0
  have c_2_B_1 : w_2.cell? ⟨w.heap.size + 1, 1, none⟩ = some (.int .i64 e) := k_2_B.cell 1
  have c_2_B_2 : w_2.cell? ⟨w.heap.size + 1, 2, none⟩ = some (.int .i64 f) := k_2_B.cell 2
  have l_2_B := k_2_B.lt
  have k_2_R : Blk w_2 (w.heap.size + 1 + 1) 25 #[.int .i64 0, .int .i64 0, .int .i64 0] := Blk.step k_1_R hb_2
  have c_2_R_0 : w_2.cell? ⟨w.heap.size + 1 + 1, 0, none⟩ = some (.int .i64 0) := k_2_R.cell 0
  have c_2_R_1 : w_2.cell? ⟨w.heap.size + 1 + 1, 1, none⟩ = some (.int .i64 0) := k_2_R.cell 1
  have c_2_R_2 : w_2.cell? ⟨w.heap.size + 1 + 1, 2, none⟩ = some (.int .i64 0) := k_2_R.cell 2
  have z_2_0 := k_2_R.frozen 0
  have z_2_1 := k_2_R.frozen 1
  have z_2_2 := k_2_R.frozen 2
  have l_2_R := k_2_R.lt
  have k_2_O : Blk w_2 (w.heap.size + 1 + 1 + 1) 25 #[.int .i64 (wrap64 (a + d)), .int .i64 (wrap64 (b + e)), .int .i64 (wrap64 (c + f))] := Blk.step k_1_O hb_2
  have c_2_O_0 : w_2.cell? ⟨w.heap.size + 1 + 1 + 1, 0, none⟩ = some (.int .i64 (wrap64 (a + d))) := k_2_O.cell 0
  have c_2_O_1 : w_2.cell? ⟨w.heap.size + 1 + 1 + 1, 1, none⟩ = some (.int .i64 (wrap64 (b + e))) := k_2_O.cell 1
  have c_2_O_2 : w_2.cell? ⟨w.heap.size + 1 + 1 + 1, 2, none⟩ = some (.int .i64 (wrap64 (c + f))) := k_2_O.cell 2
  have l_2_O := k_2_O.lt
  clear hb_2 i_1 k_1_A l_1_A c_1_A_0 c_1_A_1 c_1_A_2 k_1_B l_1_B c_1_B_0 c_1_B_1 c_1_B_2 k_1_R l_1_R c_1_R_0 c_1_R_1 c_1_R_2 k_1_O l_1_O c_1_O_0 c_1_O_1 c_1_O_2 z_1_0 z_1_1 z_1_2
  cases h2 : costB d e f
  · have HV : Hid (addV a b c d e f = .tuple #[.agg #[.int .i64 0, .int .i64 0, .int .i64 0], .bool false]) := Lib.hid (by simp [addV, addB, h2])
    go_wp2
    exact bodyPost_ret (v := .tuple #[.agg #[.int .i64 0, .int .i64 0, .int .i64 0], .bool false]) (by simp [results, Tryd.results11, go_sem, c_2_R_0, c_2_R_1, c_2_R_2]) rfl (Val.mk' (by rw [HV.out]) (by first | exact i_2 | exact In.set_ (In.set_ (In.set_ i_2 (by simp; omega) _) (by simp; omega) _) (by simp; omega) _ | exact In.drew (In.set_ (In.set_ (In.set_ i_2 (by simp; omega) _) (by simp; omega) _) (by simp; omega) _)))
  obtain ⟨a1, a2, b1, b2, c1, c2⟩ := cost_in h1
  obtain ⟨d1, d2, e1, e2, f1, f2⟩ := cost_in h2
  have x1 : wrap64 (a + d) = a + d := w64 (by omega)
  have x2 : wrap64 (b + e) = b + e := w64 (by omega)
  have x3 : wrap64 (c + f) = c + f := w64 (by omega)
  rw [x1, x2, x3] at k_2_O
  rw [x1] at c_2_O_0
  rw [x2] at c_2_O_1
  rw [x3] at c_2_O_2
  go_wp2_with fail
  refine (iCostOk (a + d) (b + e) (c + f) _).mono ?_
  rintro _ w_3 ⟨rfl, hb_3⟩
  have i_3 : In w.heap.size w w_3 := In.step (by (repeat (first | exact In.refl _ | assumption | apply In.alloc | apply In.drewN | apply In.drew | (refine In.step ?_ (by assumption))))) hb_3
  have k_3_O : Blk w_3 (w.heap.size + 1 + 1 + 1) 25 #[.int .i64 (a + d), .int .i64 (b + e), .int .i64 (c + f)] := Blk.step k_2_O hb_3
  have c_3_O_0 : w_3.cell? ⟨w.heap.size + 1 + 1 + 1, 0, none⟩ = some (.int .i64 (a + d)) := k_3_O.cell 0
  have c_3_O_1 : w_3.cell? ⟨w.heap.size + 1 + 1 + 1, 1, none⟩ = some (.int .i64 (b + e)) := k_3_O.cell 1
  have c_3_O_2 : w_3.cell? ⟨w.heap.size + 1 + 1 + 1, 2, none⟩ = some (.int .i64 (c + f)) := k_3_O.cell 2
  have l_3_O := k_3_O.lt
  have k_3_R : Blk w_3 (w.heap.size + 1 + 1) 25 #[.int .i64 0, .int .i64 0, .int .i64 0] := Blk.step k_2_R hb_3
  have c_3_R_0 : w_3.cell? ⟨w.heap.size + 1 + 1, 0, none⟩ = some (.int .i64 0) := k_3_R.cell 0
  have c_3_R_1 : w_3.cell? ⟨w.heap.size + 1 + 1, 1, none⟩ = some (.int .i64 0) := k_3_R.cell 1
  have c_3_R_2 : w_3.cell? ⟨w.heap.size + 1 + 1, 2, none⟩ = some (.int .i64 0) := k_3_R.cell 2
  have z_3_0 := k_3_R.frozen 0
  have z_3_1 := k_3_R.frozen 1
  have z_3_2 := k_3_R.frozen 2
  have l_3_R := k_3_R.lt
  clear hb_3 i_2 k_2_A l_2_A c_2_A_0 c_2_A_1 c_2_A_2 k_2_B l_2_B c_2_B_0 c_2_B_1 c_2_B_2 k_2_R l_2_R c_2_R_0 c_2_R_1 c_2_R_2 k_2_O l_2_O c_2_O_0 c_2_O_1 c_2_O_2 z_2_0 z_2_1 z_2_2
  cases h3 : costB (a + d) (b + e) (c + f)
  · have HV : Hid (addV a b c d e f = .tuple #[.agg #[.int .i64 0, .int .i64 0, .int .i64 0], .bool false]) := Lib.hid (by simp [addV, addB, h3])
    go_wp2
    exact bodyPost_ret (v := .tuple #[.agg #[.int .i64 0, .int .i64 0, .int .i64 0], .bool false]) (by simp [results, Tryd.results11, go_sem, c_3_R_0, c_3_R_1, c_3_R_2]) rfl (Val.mk' (by rw [HV.out]) (by first | exact i_3 | exact In.set_ (In.set_ (In.set_ i_3 (by simp; omega) _) (by simp; omega) _) (by simp; omega) _ | exact In.drew (In.set_ (In.set_ (In.set_ i_3 (by simp; omega) _) (by simp; omega) _) (by simp; omega) _)))
  have HV : Hid (addV a b c d e f = .tuple #[.agg #[.int .i64 (a + d), .int .i64 (b + e), .int .i64 (c + f)], .bool true]) := Lib.hid (by simp [addV, addB, h1, h2, h3])
  go_wp2
  exact bodyPost_ret (v := .tuple #[.agg #[.int .i64 (a + d), .int .i64 (b + e), .int .i64 (c + f)], .bool true]) (by simp [results, Tryd.results11, go_sem, c_3_R_0, c_3_R_1, c_3_R_2]) rfl (Val.mk' (by rw [HV.out]) (by first | exact i_3 | exact In.set_ (In.set_ (In.set_ i_3 (by simp; omega) _) (by simp; omega) _) (by simp; omega) _ | exact In.drew (In.set_ (In.set_ (In.set_ i_3 (by simp; omega) _) (by simp; omega) _) (by simp; omega) _)))
end Go.Proofs.YtkaaebpoljnbnaaDoor
