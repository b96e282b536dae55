import Derived.Test.YtmcfghklfkmfkaaI37
import Derived.Test.YtmcfghklfkmfkaaC03
import Derived.Test.YtmcfghklfkmfkaaA02
import Derived.Test.YtmcfghklfkmfkaaIn
import Derived.Test.YtmcfghklfkmfkaaDd03
import Derived.Test.YtmcfghklfkmfkaaInv2
/- Chapter 38: BakeryOk. -/
namespace Go.Proofs.Ytmcfghklfkmfkaa
open Go.ChangeShapes Go.WideShapes Go.ChangeAt Go.RowKit
set_option linter.unusedVariables false
set_option linter.unusedSimpArgs false
set_option maxHeartbeats 2000000

def yOk (n : Nat) (xs : List Int) (m : Nat) (ys : List EventR) (a0 a1 a2 a3 a4 a5 a6 a7 a8 a9 a10 a11 : Int) : Bool := stB n xs && (dOk a0 a1 a2 && (loafB a3 a4 && (bkB m ys a5 a6 a7 a8 a9 a10 && inB a11 0 1000000)))
theorem sBakeryOk (g n c : Nat) (xs : List Int) (h m d : Nat) (ys : List EventR) (a0 a1 a2 a3 a4 a5 a6 a7 a8 a9 a10 a11 : Int) (w : World) (hn : (n : Int) ≤ 1048576) (hm : (m : Int) ≤ 1048576) (hx : ReadsI w (some ⟨g, 0, none⟩) n xs) (hy : ReadsEvent w (some ⟨h, 0, none⟩) m ys) : Calls Try.prog 53 #[.agg #[.slice (some ⟨g, 0, none⟩) n c, .int .i64 a0, .int .i64 a1, .int .i64 a2, .int .i64 a3, .int .i64 a4, .slice (some ⟨h, 0, none⟩) m d, .int .i64 a5, .int .i64 a6, .int .i64 a7, .int .i64 a8, .int .i64 a9, .int .i64 a10, .int .i64 a11]] w (Val (.bool (yOk n xs m ys a0 a1 a2 a3 a4 a5 a6 a7 a8 a9 a10 a11)) w) := by
  have HX := Lib.hid hx
  have HY := Lib.hid hy
  clear hx hy
  obtain ⟨b_A, hbx_A⟩ : ∃ b, b = w.heap.size := ⟨_, rfl⟩
  have kk_A : Blk (w.alloc (.cells #[.slice (some ⟨g, 0, none⟩) n c, .int .i64 a0, .int .i64 a1, .int .i64 a2, .int .i64 a3, .int .i64 a4, .slice (some ⟨h, 0, none⟩) m d, .int .i64 a5, .int .i64 a6, .int .i64 a7, .int .i64 a8, .int .i64 a9, .int .i64 a10, .int .i64 a11] 45)) b_A 45 #[.slice (some ⟨g, 0, none⟩) n c, .int .i64 a0, .int .i64 a1, .int .i64 a2, .int .i64 a3, .int .i64 a4, .slice (some ⟨h, 0, none⟩) m d, .int .i64 a5, .int .i64 a6, .int .i64 a7, .int .i64 a8, .int .i64 a9, .int .i64 a10, .int .i64 a11] := (Blk.new' (w := w) (t := 45) (cs := #[.slice (some ⟨g, 0, none⟩) n c, .int .i64 a0, .int .i64 a1, .int .i64 a2, .int .i64 a3, .int .i64 a4, .slice (some ⟨h, 0, none⟩) m d, .int .i64 a5, .int .i64 a6, .int .i64 a7, .int .i64 a8, .int .i64 a9, .int .i64 a10, .int .i64 a11]) (g := b_A) (by simp [hbx_A]))
  have hwb_A : w.heap.size ≤ b_A := by omega
  have hb_0 : Below w.heap.size w (w.alloc (.cells #[.slice (some ⟨g, 0, none⟩) n c, .int .i64 a0, .int .i64 a1, .int .i64 a2, .int .i64 a3, .int .i64 a4, .slice (some ⟨h, 0, none⟩) m d, .int .i64 a5, .int .i64 a6, .int .i64 a7, .int .i64 a8, .int .i64 a9, .int .i64 a10, .int .i64 a11] 45)) := by
    have h : In w.heap.size w (w.alloc (.cells #[.slice (some ⟨g, 0, none⟩) n c, .int .i64 a0, .int .i64 a1, .int .i64 a2, .int .i64 a3, .int .i64 a4, .slice (some ⟨h, 0, none⟩) m d, .int .i64 a5, .int .i64 a6, .int .i64 a7, .int .i64 a8, .int .i64 a9, .int .i64 a10, .int .i64 a11] 45)) := by (repeat (first | exact In.refl _ | assumption | apply In.alloc | apply In.drewN | apply In.drew | (refine In.step ?_ (by assumption))))
    exact h.below
  have hsz_0 : (w.alloc (.cells #[.slice (some ⟨g, 0, none⟩) n c, .int .i64 a0, .int .i64 a1, .int .i64 a2, .int .i64 a3, .int .i64 a4, .slice (some ⟨h, 0, none⟩) m d, .int .i64 a5, .int .i64 a6, .int .i64 a7, .int .i64 a8, .int .i64 a9, .int .i64 a10, .int .i64 a11] 45)).heap.size = b_A + 1 := by simp [hbx_A]
  go_enter Try.func53, Try.ntmps53
  go_wp2_with fail
  rw [← hbx_A]
  clear hbx_A
  generalize (w.alloc (.cells #[.slice (some ⟨g, 0, none⟩) n c, .int .i64 a0, .int .i64 a1, .int .i64 a2, .int .i64 a3, .int .i64 a4, .slice (some ⟨h, 0, none⟩) m d, .int .i64 a5, .int .i64 a6, .int .i64 a7, .int .i64 a8, .int .i64 a9, .int .i64 a10, .int .i64 a11] 45)) = w_0 at *
  have i_0 : In w.heap.size w w_0 := In.step (by (repeat (first | exact In.refl _ | assumption | apply In.alloc | apply In.drewN | apply In.drew | (refine In.step ?_ (by assumption))))) hb_0
  have k_0_A : Blk w_0 b_A 45 #[.slice (some ⟨g, 0, none⟩) n c, .int .i64 a0, .int .i64 a1, .int .i64 a2, .int .i64 a3, .int .i64 a4, .slice (some ⟨h, 0, none⟩) m d, .int .i64 a5, .int .i64 a6, .int .i64 a7, .int .i64 a8, .int .i64 a9, .int .i64 a10, .int .i64 a11] := kk_A
  have c_0_A_0 : w_0.cell? ⟨b_A, 0, none⟩ = some (.slice (some ⟨g, 0, none⟩) n c) := k_0_A.cell 0
  have c_0_A_1 : w_0.cell? ⟨b_A, 1, none⟩ = some (.int .i64 a0) := k_0_A.cell 1
  have c_0_A_2 : w_0.cell? ⟨b_A, 2, none⟩ = some (.int .i64 a1) := k_0_A.cell 2
  have c_0_A_3 : w_0.cell? ⟨b_A, 3, none⟩ = some (.int .i64 a2) := k_0_A.cell 3
  have c_0_A_4 : w_0.cell? ⟨b_A, 4, none⟩ = some (.int .i64 a3) := k_0_A.cell 4
  have c_0_A_5 : w_0.cell? ⟨b_A, 5, none⟩ = some (.int .i64 a4) := k_0_A.cell 5
  have c_0_A_6 : w_0.cell? ⟨b_A, 6, none⟩ = some (.slice (some ⟨h, 0, none⟩) m d) := k_0_A.cell 6
  have c_0_A_7 : w_0.cell? ⟨b_A, 7, none⟩ = some (.int .i64 a5) := k_0_A.cell 7
  have c_0_A_8 : w_0.cell? ⟨b_A, 8, none⟩ = some (.int .i64 a6) := k_0_A.cell 8
  have c_0_A_9 : w_0.cell? ⟨b_A, 9, none⟩ = some (.int .i64 a7) := k_0_A.cell 9
  have c_0_A_10 : w_0.cell? ⟨b_A, 10, none⟩ = some (.int .i64 a8) := k_0_A.cell 10
  have c_0_A_11 : w_0.cell? ⟨b_A, 11, none⟩ = some (.int .i64 a9) := k_0_A.cell 11
  have c_0_A_12 : w_0.cell? ⟨b_A, 12, none⟩ = some (.int .i64 a10) := k_0_A.cell 12
  have c_0_A_13 : w_0.cell? ⟨b_A, 13, none⟩ = some (.int .i64 a11) := k_0_A.cell 13
  have l_0_A := k_0_A.lt
  clear kk_A
  go_wp2_with fail
  refine (sStoreOk (some ⟨g, 0, none⟩) n c xs _ (by unfold maxLen; omega) (HX.out.in_ (by (repeat (first | exact In.refl _ | assumption | apply In.alloc | apply In.drewN | apply In.drew | (refine In.step ?_ (by assumption))))))).mono ?_
  rintro _ w_1 ⟨rfl, hb_1⟩
  have i_1 : In w.heap.size w w_1 := In.step (by (repeat (first | exact In.refl _ | assumption | apply In.alloc | apply In.drewN | apply In.drew | (refine In.step ?_ (by assumption))))) hb_1
  have k_1_A : Blk w_1 b_A 45 #[.slice (some ⟨g, 0, none⟩) n c, .int .i64 a0, .int .i64 a1, .int .i64 a2, .int .i64 a3, .int .i64 a4, .slice (some ⟨h, 0, none⟩) m d, .int .i64 a5, .int .i64 a6, .int .i64 a7, .int .i64 a8, .int .i64 a9, .int .i64 a10, .int .i64 a11] := Blk.step (by (with_reducible (repeat (first | assumption | exact Blk.new' (by simp) | apply Blk.drewN | apply Blk.drew | apply Blk.alloc | (refine Blk.far ?_ (by (try simp) <;> omega) _))))) hb_1
  have c_1_A_0 : w_1.cell? ⟨b_A, 0, none⟩ = some (.slice (some ⟨g, 0, none⟩) n c) := k_1_A.cell 0
  have c_1_A_1 : w_1.cell? ⟨b_A, 1, none⟩ = some (.int .i64 a0) := k_1_A.cell 1
  have c_1_A_2 : w_1.cell? ⟨b_A, 2, none⟩ = some (.int .i64 a1) := k_1_A.cell 2
  have c_1_A_3 : w_1.cell? ⟨b_A, 3, none⟩ = some (.int .i64 a2) := k_1_A.cell 3
  have c_1_A_4 : w_1.cell? ⟨b_A, 4, none⟩ = some (.int .i64 a3) := k_1_A.cell 4
  have c_1_A_5 : w_1.cell? ⟨b_A, 5, none⟩ = some (.int .i64 a4) := k_1_A.cell 5
  have c_1_A_6 : w_1.cell? ⟨b_A, 6, none⟩ = some (.slice (some ⟨h, 0, none⟩) m d) := k_1_A.cell 6
  have c_1_A_7 : w_1.cell? ⟨b_A, 7, none⟩ = some (.int .i64 a5) := k_1_A.cell 7
  have c_1_A_8 : w_1.cell? ⟨b_A, 8, none⟩ = some (.int .i64 a6) := k_1_A.cell 8
  have c_1_A_9 : w_1.cell? ⟨b_A, 9, none⟩ = some (.int .i64 a7) := k_1_A.cell 9
  have c_1_A_10 : w_1.cell? ⟨b_A, 10, none⟩ = some (.int .i64 a8) := k_1_A.cell 10
  have c_1_A_11 : w_1.cell? ⟨b_A, 11, none⟩ = some (.int .i64 a9) := k_1_A.cell 11
  have c_1_A_12 : w_1.cell? ⟨b_A, 12, none⟩ = some (.int .i64 a10) := k_1_A.cell 12
  have c_1_A_13 : w_1.cell? ⟨b_A, 13, none⟩ = some (.int .i64 a11) := k_1_A.cell 13
  have l_1_A := k_1_A.lt
  clear i_0 k_0_A c_0_A_0 c_0_A_1 c_0_A_2 c_0_A_3 c_0_A_4 c_0_A_5 c_0_A_6 c_0_A_7 c_0_A_8 c_0_A_9 c_0_A_10 c_0_A_11 c_0_A_12 c_0_A_13 l_0_A hb_0
  cases h1 : stB n xs
  · have HV : Hid (yOk n xs m ys a0 a1 a2 a3 a4 a5 a6 a7 a8 a9 a10 a11 = false) := Lib.hid (by simp [yOk, h1])
    go_wp2
    go_ret
    exact Val.mk' (v_bool HV.out.symm) (by (repeat (first | exact In.refl _ | assumption | apply In.alloc | apply In.drewN | apply In.drew | (refine In.step ?_ (by assumption)))))
  go_wp2_with fail
  refine (sDoughOk a0 a1 a2 _).mono ?_
  rintro _ w_2 ⟨rfl, hb_2⟩
  have i_2 : In w.heap.size w w_2 := In.step (by (repeat (first | exact In.refl _ | assumption | apply In.alloc | apply In.drewN | apply In.drew | (refine In.step ?_ (by assumption))))) hb_2
  have k_2_A : Blk w_2 b_A 45 #[.slice (some ⟨g, 0, none⟩) n c, .int .i64 a0, .int .i64 a1, .int .i64 a2, .int .i64 a3, .int .i64 a4, .slice (some ⟨h, 0, none⟩) m d, .int .i64 a5, .int .i64 a6, .int .i64 a7, .int .i64 a8, .int .i64 a9, .int .i64 a10, .int .i64 a11] := Blk.step (by (with_reducible (repeat (first | assumption | exact Blk.new' (by simp) | apply Blk.drewN | apply Blk.drew | apply Blk.alloc | (refine Blk.far ?_ (by (try simp) <;> omega) _))))) hb_2
  have c_2_A_0 : w_2.cell? ⟨b_A, 0, none⟩ = some (.slice (some ⟨g, 0, none⟩) n c) := k_2_A.cell 0
  have c_2_A_1 : w_2.cell? ⟨b_A, 1, none⟩ = some (.int .i64 a0) := k_2_A.cell 1
  have c_2_A_2 : w_2.cell? ⟨b_A, 2, none⟩ = some (.int .i64 a1) := k_2_A.cell 2
  have c_2_A_3 : w_2.cell? ⟨b_A, 3, none⟩ = some (.int .i64 a2) := k_2_A.cell 3
  have c_2_A_4 : w_2.cell? ⟨b_A, 4, none⟩ = some (.int .i64 a3) := k_2_A.cell 4
  have c_2_A_5 : w_2.cell? ⟨b_A, 5, none⟩ = some (.int .i64 a4) := k_2_A.cell 5
  have c_2_A_6 : w_2.cell? ⟨b_A, 6, none⟩ = some (.slice (some ⟨h, 0, none⟩) m d) := k_2_A.cell 6
  have c_2_A_7 : w_2.cell? ⟨b_A, 7, none⟩ = some (.int .i64 a5) := k_2_A.cell 7
  have c_2_A_8 : w_2.cell? ⟨b_A, 8, none⟩ = some (.int .i64 a6) := k_2_A.cell 8
  have c_2_A_9 : w_2.cell? ⟨b_A, 9, none⟩ = some (.int .i64 a7) := k_2_A.cell 9
  have c_2_A_10 : w_2.cell? ⟨b_A, 10, none⟩ = some (.int .i64 a8) := k_2_A.cell 10
  have c_2_A_11 : w_2.cell? ⟨b_A, 11, none⟩ = some (.int .i64 a9) := k_2_A.cell 11
  have c_2_A_12 : w_2.cell? ⟨b_A, 12, none⟩ = some (.int .i64 a10) := k_2_A.cell 12
  have c_2_A_13 : w_2.cell? ⟨b_A, 13, none⟩ = some (.int .i64 a11) := k_2_A.cell 13
  have l_2_A := k_2_A.lt
  clear i_1 k_1_A c_1_A_0 c_1_A_1 c_1_A_2 c_1_A_3 c_1_A_4 c_1_A_5 c_1_A_6 c_1_A_7 c_1_A_8 c_1_A_9 c_1_A_10 c_1_A_11 c_1_A_12 c_1_A_13 l_1_A hb_1
  cases h2 : dOk a0 a1 a2
  · have HV : Hid (yOk n xs m ys a0 a1 a2 a3 a4 a5 a6 a7 a8 a9 a10 a11 = false) := Lib.hid (by simp [yOk, h1, h2])
    go_wp2
    go_ret
    exact Val.mk' (v_bool HV.out.symm) (by (repeat (first | exact In.refl _ | assumption | apply In.alloc | apply In.drewN | apply In.drew | (refine In.step ?_ (by assumption)))))
  go_wp2_with fail
  refine (sLoafOk a3 a4 _).mono ?_
  rintro _ w_3 ⟨rfl, hb_3⟩
  have i_3 : In w.heap.size w w_3 := In.step (by (repeat (first | exact In.refl _ | assumption | apply In.alloc | apply In.drewN | apply In.drew | (refine In.step ?_ (by assumption))))) hb_3
  have k_3_A : Blk w_3 b_A 45 #[.slice (some ⟨g, 0, none⟩) n c, .int .i64 a0, .int .i64 a1, .int .i64 a2, .int .i64 a3, .int .i64 a4, .slice (some ⟨h, 0, none⟩) m d, .int .i64 a5, .int .i64 a6, .int .i64 a7, .int .i64 a8, .int .i64 a9, .int .i64 a10, .int .i64 a11] := Blk.step (by (with_reducible (repeat (first | assumption | exact Blk.new' (by simp) | apply Blk.drewN | apply Blk.drew | apply Blk.alloc | (refine Blk.far ?_ (by (try simp) <;> omega) _))))) hb_3
  have c_3_A_0 : w_3.cell? ⟨b_A, 0, none⟩ = some (.slice (some ⟨g, 0, none⟩) n c) := k_3_A.cell 0
  have c_3_A_1 : w_3.cell? ⟨b_A, 1, none⟩ = some (.int .i64 a0) := k_3_A.cell 1
  have c_3_A_2 : w_3.cell? ⟨b_A, 2, none⟩ = some (.int .i64 a1) := k_3_A.cell 2
  have c_3_A_3 : w_3.cell? ⟨b_A, 3, none⟩ = some (.int .i64 a2) := k_3_A.cell 3
  have c_3_A_4 : w_3.cell? ⟨b_A, 4, none⟩ = some (.int .i64 a3) := k_3_A.cell 4
  have c_3_A_5 : w_3.cell? ⟨b_A, 5, none⟩ = some (.int .i64 a4) := k_3_A.cell 5
  have c_3_A_6 : w_3.cell? ⟨b_A, 6, none⟩ = some (.slice (some ⟨h, 0, none⟩) m d) := k_3_A.cell 6
  have c_3_A_7 : w_3.cell? ⟨b_A, 7, none⟩ = some (.int .i64 a5) := k_3_A.cell 7
  have c_3_A_8 : w_3.cell? ⟨b_A, 8, none⟩ = some (.int .i64 a6) := k_3_A.cell 8
  have c_3_A_9 : w_3.cell? ⟨b_A, 9, none⟩ = some (.int .i64 a7) := k_3_A.cell 9
  have c_3_A_10 : w_3.cell? ⟨b_A, 10, none⟩ = some (.int .i64 a8) := k_3_A.cell 10
  have c_3_A_11 : w_3.cell? ⟨b_A, 11, none⟩ = some (.int .i64 a9) := k_3_A.cell 11
  have c_3_A_12 : w_3.cell? ⟨b_A, 12, none⟩ = some (.int .i64 a10) := k_3_A.cell 12
  have c_3_A_13 : w_3.cell? ⟨b_A, 13, none⟩ = some (.int .i64 a11) := k_3_A.cell 13
  have l_3_A := k_3_A.lt
  clear i_2 k_2_A c_2_A_0 c_2_A_1 c_2_A_2 c_2_A_3 c_2_A_4 c_2_A_5 c_2_A_6 c_2_A_7 c_2_A_8 c_2_A_9 c_2_A_10 c_2_A_11 c_2_A_12 c_2_A_13 l_2_A hb_2
  cases h3 : loafB a3 a4
  · have HV : Hid (yOk n xs m ys a0 a1 a2 a3 a4 a5 a6 a7 a8 a9 a10 a11 = false) := Lib.hid (by simp [yOk, h1, h2, h3])
    go_wp2
    go_ret
    exact Val.mk' (v_bool HV.out.symm) (by (repeat (first | exact In.refl _ | assumption | apply In.alloc | apply In.drewN | apply In.drew | (refine In.step ?_ (by assumption)))))
  go_wp2_with fail
  refine (sBookOk h m d ys a5 a6 a7 a8 a9 a10 _ (by omega) (HY.out.in_ (by (repeat (first | exact In.refl _ | assumption | apply In.alloc | apply In.drewN | apply In.drew | (refine In.step ?_ (by assumption))))))).mono ?_
  rintro _ w_4 ⟨rfl, hb_4⟩
  have i_4 : In w.heap.size w w_4 := In.step (by (repeat (first | exact In.refl _ | assumption | apply In.alloc | apply In.drewN | apply In.drew | (refine In.step ?_ (by assumption))))) hb_4
  have k_4_A : Blk w_4 b_A 45 #[.slice (some ⟨g, 0, none⟩) n c, .int .i64 a0, .int .i64 a1, .int .i64 a2, .int .i64 a3, .int .i64 a4, .slice (some ⟨h, 0, none⟩) m d, .int .i64 a5, .int .i64 a6, .int .i64 a7, .int .i64 a8, .int .i64 a9, .int .i64 a10, .int .i64 a11] := Blk.step (by (with_reducible (repeat (first | assumption | exact Blk.new' (by simp) | apply Blk.drewN | apply Blk.drew | apply Blk.alloc | (refine Blk.far ?_ (by (try simp) <;> omega) _))))) hb_4
  have c_4_A_0 : w_4.cell? ⟨b_A, 0, none⟩ = some (.slice (some ⟨g, 0, none⟩) n c) := k_4_A.cell 0
  have c_4_A_1 : w_4.cell? ⟨b_A, 1, none⟩ = some (.int .i64 a0) := k_4_A.cell 1
  have c_4_A_2 : w_4.cell? ⟨b_A, 2, none⟩ = some (.int .i64 a1) := k_4_A.cell 2
  have c_4_A_3 : w_4.cell? ⟨b_A, 3, none⟩ = some (.int .i64 a2) := k_4_A.cell 3
  have c_4_A_4 : w_4.cell? ⟨b_A, 4, none⟩ = some (.int .i64 a3) := k_4_A.cell 4
  have c_4_A_5 : w_4.cell? ⟨b_A, 5, none⟩ = some (.int .i64 a4) := k_4_A.cell 5
  have c_4_A_6 : w_4.cell? ⟨b_A, 6, none⟩ = some (.slice (some ⟨h, 0, none⟩) m d) := k_4_A.cell 6
  have c_4_A_7 : w_4.cell? ⟨b_A, 7, none⟩ = some (.int .i64 a5) := k_4_A.cell 7
  have c_4_A_8 : w_4.cell? ⟨b_A, 8, none⟩ = some (.int .i64 a6) := k_4_A.cell 8
  have c_4_A_9 : w_4.cell? ⟨b_A, 9, none⟩ = some (.int .i64 a7) := k_4_A.cell 9
  have c_4_A_10 : w_4.cell? ⟨b_A, 10, none⟩ = some (.int .i64 a8) := k_4_A.cell 10
  have c_4_A_11 : w_4.cell? ⟨b_A, 11, none⟩ = some (.int .i64 a9) := k_4_A.cell 11
  have c_4_A_12 : w_4.cell? ⟨b_A, 12, none⟩ = some (.int .i64 a10) := k_4_A.cell 12
  have c_4_A_13 : w_4.cell? ⟨b_A, 13, none⟩ = some (.int .i64 a11) := k_4_A.cell 13
  have l_4_A := k_4_A.lt
  clear i_3 k_3_A c_3_A_0 c_3_A_1 c_3_A_2 c_3_A_3 c_3_A_4 c_3_A_5 c_3_A_6 c_3_A_7 c_3_A_8 c_3_A_9 c_3_A_10 c_3_A_11 c_3_A_12 c_3_A_13 l_3_A hb_3
  cases h4 : bkB m ys a5 a6 a7 a8 a9 a10
  · have HV : Hid (yOk n xs m ys a0 a1 a2 a3 a4 a5 a6 a7 a8 a9 a10 a11 = false) := Lib.hid (by simp [yOk, h1, h2, h3, h4])
    go_wp2
    go_ret
    exact Val.mk' (v_bool HV.out.symm) (by (repeat (first | exact In.refl _ | assumption | apply In.alloc | apply In.drewN | apply In.drew | (refine In.step ?_ (by assumption)))))
  have HV : Hid (yOk n xs m ys a0 a1 a2 a3 a4 a5 a6 a7 a8 a9 a10 a11 = inB a11 0 1000000) := Lib.hid (by simp [yOk, h1, h2, h3, h4])
  go_wp2_with fail
  refine (sIn a11 0 1000000 _).mono ?_
  rintro _ _ ⟨rfl, rfl⟩
  go_wp2
  go_ret
  exact Val.mk' (v_bool HV.out.symm) (by (repeat (first | exact In.refl _ | assumption | apply In.alloc | apply In.drewN | apply In.drew | (refine In.step ?_ (by assumption)))))
theorem iBakeryOk (g n c : Nat) (xs : List Int) (h m d : Nat) (ys : List EventR) (a0 a1 a2 a3 a4 a5 a6 a7 a8 a9 a10 a11 : Int) (w : World) (hn : (n : Int) ≤ 1048576) (hm : (m : Int) ≤ 1048576) (hx : ReadsI w (some ⟨g, 0, none⟩) n xs) (hy : ReadsEvent w (some ⟨h, 0, none⟩) m ys) : Calls Try.prog 58 #[.agg #[.slice (some ⟨g, 0, none⟩) n c, .int .i64 a0, .int .i64 a1, .int .i64 a2, .int .i64 a3, .int .i64 a4, .slice (some ⟨h, 0, none⟩) m d, .int .i64 a5, .int .i64 a6, .int .i64 a7, .int .i64 a8, .int .i64 a9, .int .i64 a10, .int .i64 a11]] w (Val (.bool (yOk n xs m ys a0 a1 a2 a3 a4 a5 a6 a7 a8 a9 a10 a11)) w) := by
  have HX := Lib.hid hx
  have HY := Lib.hid hy
  clear hx hy
  obtain ⟨b_A, hbx_A⟩ : ∃ b, b = w.heap.size := ⟨_, rfl⟩
  have kk_A : Blk (w.alloc (.cells #[.slice (some ⟨g, 0, none⟩) n c, .int .i64 a0, .int .i64 a1, .int .i64 a2, .int .i64 a3, .int .i64 a4, .slice (some ⟨h, 0, none⟩) m d, .int .i64 a5, .int .i64 a6, .int .i64 a7, .int .i64 a8, .int .i64 a9, .int .i64 a10, .int .i64 a11] 45)) b_A 45 #[.slice (some ⟨g, 0, none⟩) n c, .int .i64 a0, .int .i64 a1, .int .i64 a2, .int .i64 a3, .int .i64 a4, .slice (some ⟨h, 0, none⟩) m d, .int .i64 a5, .int .i64 a6, .int .i64 a7, .int .i64 a8, .int .i64 a9, .int .i64 a10, .int .i64 a11] := (Blk.new' (w := w) (t := 45) (cs := #[.slice (some ⟨g, 0, none⟩) n c, .int .i64 a0, .int .i64 a1, .int .i64 a2, .int .i64 a3, .int .i64 a4, .slice (some ⟨h, 0, none⟩) m d, .int .i64 a5, .int .i64 a6, .int .i64 a7, .int .i64 a8, .int .i64 a9, .int .i64 a10, .int .i64 a11]) (g := b_A) (by simp [hbx_A]))
  have hwb_A : w.heap.size ≤ b_A := by omega
  have hb_0 : Below w.heap.size w (w.alloc (.cells #[.slice (some ⟨g, 0, none⟩) n c, .int .i64 a0, .int .i64 a1, .int .i64 a2, .int .i64 a3, .int .i64 a4, .slice (some ⟨h, 0, none⟩) m d, .int .i64 a5, .int .i64 a6, .int .i64 a7, .int .i64 a8, .int .i64 a9, .int .i64 a10, .int .i64 a11] 45)) := by
    have h : In w.heap.size w (w.alloc (.cells #[.slice (some ⟨g, 0, none⟩) n c, .int .i64 a0, .int .i64 a1, .int .i64 a2, .int .i64 a3, .int .i64 a4, .slice (some ⟨h, 0, none⟩) m d, .int .i64 a5, .int .i64 a6, .int .i64 a7, .int .i64 a8, .int .i64 a9, .int .i64 a10, .int .i64 a11] 45)) := by (repeat (first | exact In.refl _ | assumption | apply In.alloc | apply In.drewN | apply In.drew | (refine In.step ?_ (by assumption))))
    exact h.below
  have hsz_0 : (w.alloc (.cells #[.slice (some ⟨g, 0, none⟩) n c, .int .i64 a0, .int .i64 a1, .int .i64 a2, .int .i64 a3, .int .i64 a4, .slice (some ⟨h, 0, none⟩) m d, .int .i64 a5, .int .i64 a6, .int .i64 a7, .int .i64 a8, .int .i64 a9, .int .i64 a10, .int .i64 a11] 45)).heap.size = b_A + 1 := by simp [hbx_A]
  go_enter Try.func58, Try.ntmps58
  go_wp2_with fail
  rw [← hbx_A]
  clear hbx_A
  generalize (w.alloc (.cells #[.slice (some ⟨g, 0, none⟩) n c, .int .i64 a0, .int .i64 a1, .int .i64 a2, .int .i64 a3, .int .i64 a4, .slice (some ⟨h, 0, none⟩) m d, .int .i64 a5, .int .i64 a6, .int .i64 a7, .int .i64 a8, .int .i64 a9, .int .i64 a10, .int .i64 a11] 45)) = w_0 at *
  have i_0 : In w.heap.size w w_0 := In.step (by (repeat (first | exact In.refl _ | assumption | apply In.alloc | apply In.drewN | apply In.drew | (refine In.step ?_ (by assumption))))) hb_0
  have k_0_A : Blk w_0 b_A 45 #[.slice (some ⟨g, 0, none⟩) n c, .int .i64 a0, .int .i64 a1, .int .i64 a2, .int .i64 a3, .int .i64 a4, .slice (some ⟨h, 0, none⟩) m d, .int .i64 a5, .int .i64 a6, .int .i64 a7, .int .i64 a8, .int .i64 a9, .int .i64 a10, .int .i64 a11] := kk_A
  have c_0_A_0 : w_0.cell? ⟨b_A, 0, none⟩ = some (.slice (some ⟨g, 0, none⟩) n c) := k_0_A.cell 0
  have c_0_A_1 : w_0.cell? ⟨b_A, 1, none⟩ = some (.int .i64 a0) := k_0_A.cell 1
  have c_0_A_2 : w_0.cell? ⟨b_A, 2, none⟩ = some (.int .i64 a1) := k_0_A.cell 2
  have c_0_A_3 : w_0.cell? ⟨b_A, 3, none⟩ = some (.int .i64 a2) := k_0_A.cell 3
  have c_0_A_4 : w_0.cell? ⟨b_A, 4, none⟩ = some (.int .i64 a3) := k_0_A.cell 4
  have c_0_A_5 : w_0.cell? ⟨b_A, 5, none⟩ = some (.int .i64 a4) := k_0_A.cell 5
  have c_0_A_6 : w_0.cell? ⟨b_A, 6, none⟩ = some (.slice (some ⟨h, 0, none⟩) m d) := k_0_A.cell 6
  have c_0_A_7 : w_0.cell? ⟨b_A, 7, none⟩ = some (.int .i64 a5) := k_0_A.cell 7
  have c_0_A_8 : w_0.cell? ⟨b_A, 8, none⟩ = some (.int .i64 a6) := k_0_A.cell 8
  have c_0_A_9 : w_0.cell? ⟨b_A, 9, none⟩ = some (.int .i64 a7) := k_0_A.cell 9
  have c_0_A_10 : w_0.cell? ⟨b_A, 10, none⟩ = some (.int .i64 a8) := k_0_A.cell 10
  have c_0_A_11 : w_0.cell? ⟨b_A, 11, none⟩ = some (.int .i64 a9) := k_0_A.cell 11
  have c_0_A_12 : w_0.cell? ⟨b_A, 12, none⟩ = some (.int .i64 a10) := k_0_A.cell 12
  have c_0_A_13 : w_0.cell? ⟨b_A, 13, none⟩ = some (.int .i64 a11) := k_0_A.cell 13
  have l_0_A := k_0_A.lt
  clear kk_A
  go_wp2_with fail
  refine (iStoreOk (some ⟨g, 0, none⟩) n c xs _ (by unfold maxLen; omega) (HX.out.in_ (by (repeat (first | exact In.refl _ | assumption | apply In.alloc | apply In.drewN | apply In.drew | (refine In.step ?_ (by assumption))))))).mono ?_
  rintro _ w_1 ⟨rfl, hb_1⟩
  have i_1 : In w.heap.size w w_1 := In.step (by (repeat (first | exact In.refl _ | assumption | apply In.alloc | apply In.drewN | apply In.drew | (refine In.step ?_ (by assumption))))) hb_1
  have k_1_A : Blk w_1 b_A 45 #[.slice (some ⟨g, 0, none⟩) n c, .int .i64 a0, .int .i64 a1, .int .i64 a2, .int .i64 a3, .int .i64 a4, .slice (some ⟨h, 0, none⟩) m d, .int .i64 a5, .int .i64 a6, .int .i64 a7, .int .i64 a8, .int .i64 a9, .int .i64 a10, .int .i64 a11] := Blk.step (by (with_reducible (repeat (first | assumption | exact Blk.new' (by simp) | apply Blk.drewN | apply Blk.drew | apply Blk.alloc | (refine Blk.far ?_ (by (try simp) <;> omega) _))))) hb_1
  have c_1_A_0 : w_1.cell? ⟨b_A, 0, none⟩ = some (.slice (some ⟨g, 0, none⟩) n c) := k_1_A.cell 0
  have c_1_A_1 : w_1.cell? ⟨b_A, 1, none⟩ = some (.int .i64 a0) := k_1_A.cell 1
  have c_1_A_2 : w_1.cell? ⟨b_A, 2, none⟩ = some (.int .i64 a1) := k_1_A.cell 2
  have c_1_A_3 : w_1.cell? ⟨b_A, 3, none⟩ = some (.int .i64 a2) := k_1_A.cell 3
  have c_1_A_4 : w_1.cell? ⟨b_A, 4, none⟩ = some (.int .i64 a3) := k_1_A.cell 4
  have c_1_A_5 : w_1.cell? ⟨b_A, 5, none⟩ = some (.int .i64 a4) := k_1_A.cell 5
  have c_1_A_6 : w_1.cell? ⟨b_A, 6, none⟩ = some (.slice (some ⟨h, 0, none⟩) m d) := k_1_A.cell 6
  have c_1_A_7 : w_1.cell? ⟨b_A, 7, none⟩ = some (.int .i64 a5) := k_1_A.cell 7
  have c_1_A_8 : w_1.cell? ⟨b_A, 8, none⟩ = some (.int .i64 a6) := k_1_A.cell 8
  have c_1_A_9 : w_1.cell? ⟨b_A, 9, none⟩ = some (.int .i64 a7) := k_1_A.cell 9
  have c_1_A_10 : w_1.cell? ⟨b_A, 10, none⟩ = some (.int .i64 a8) := k_1_A.cell 10
  have c_1_A_11 : w_1.cell? ⟨b_A, 11, none⟩ = some (.int .i64 a9) := k_1_A.cell 11
  have c_1_A_12 : w_1.cell? ⟨b_A, 12, none⟩ = some (.int .i64 a10) := k_1_A.cell 12
  have c_1_A_13 : w_1.cell? ⟨b_A, 13, none⟩ = some (.int .i64 a11) := k_1_A.cell 13
  have l_1_A := k_1_A.lt
  clear i_0 k_0_A c_0_A_0 c_0_A_1 c_0_A_2 c_0_A_3 c_0_A_4 c_0_A_5 c_0_A_6 c_0_A_7 c_0_A_8 c_0_A_9 c_0_A_10 c_0_A_11 c_0_A_12 c_0_A_13 l_0_A hb_0
  cases h1 : stB n xs
  · have HV : Hid (yOk n xs m ys a0 a1 a2 a3 a4 a5 a6 a7 a8 a9 a10 a11 = false) := Lib.hid (by simp [yOk, h1])
    go_wp2
    go_ret
    exact Val.mk' (v_bool HV.out.symm) (by (repeat (first | exact In.refl _ | assumption | apply In.alloc | apply In.drewN | apply In.drew | (refine In.step ?_ (by assumption)))))
  go_wp2_with fail
  refine (iDoughOk a0 a1 a2 _).mono ?_
  rintro _ w_2 ⟨rfl, hb_2⟩
  have i_2 : In w.heap.size w w_2 := In.step (by (repeat (first | exact In.refl _ | assumption | apply In.alloc | apply In.drewN | apply In.drew | (refine In.step ?_ (by assumption))))) hb_2
  have k_2_A : Blk w_2 b_A 45 #[.slice (some ⟨g, 0, none⟩) n c, .int .i64 a0, .int .i64 a1, .int .i64 a2, .int .i64 a3, .int .i64 a4, .slice (some ⟨h, 0, none⟩) m d, .int .i64 a5, .int .i64 a6, .int .i64 a7, .int .i64 a8, .int .i64 a9, .int .i64 a10, .int .i64 a11] := Blk.step (by (with_reducible (repeat (first | assumption | exact Blk.new' (by simp) | apply Blk.drewN | apply Blk.drew | apply Blk.alloc | (refine Blk.far ?_ (by (try simp) <;> omega) _))))) hb_2
  have c_2_A_0 : w_2.cell? ⟨b_A, 0, none⟩ = some (.slice (some ⟨g, 0, none⟩) n c) := k_2_A.cell 0
  have c_2_A_1 : w_2.cell? ⟨b_A, 1, none⟩ = some (.int .i64 a0) := k_2_A.cell 1
  have c_2_A_2 : w_2.cell? ⟨b_A, 2, none⟩ = some (.int .i64 a1) := k_2_A.cell 2
  have c_2_A_3 : w_2.cell? ⟨b_A, 3, none⟩ = some (.int .i64 a2) := k_2_A.cell 3
  have c_2_A_4 : w_2.cell? ⟨b_A, 4, none⟩ = some (.int .i64 a3) := k_2_A.cell 4
  have c_2_A_5 : w_2.cell? ⟨b_A, 5, none⟩ = some (.int .i64 a4) := k_2_A.cell 5
  have c_2_A_6 : w_2.cell? ⟨b_A, 6, none⟩ = some (.slice (some ⟨h, 0, none⟩) m d) := k_2_A.cell 6
  have c_2_A_7 : w_2.cell? ⟨b_A, 7, none⟩ = some (.int .i64 a5) := k_2_A.cell 7
  have c_2_A_8 : w_2.cell? ⟨b_A, 8, none⟩ = some (.int .i64 a6) := k_2_A.cell 8
  have c_2_A_9 : w_2.cell? ⟨b_A, 9, none⟩ = some (.int .i64 a7) := k_2_A.cell 9
  have c_2_A_10 : w_2.cell? ⟨b_A, 10, none⟩ = some (.int .i64 a8) := k_2_A.cell 10
  have c_2_A_11 : w_2.cell? ⟨b_A, 11, none⟩ = some (.int .i64 a9) := k_2_A.cell 11
  have c_2_A_12 : w_2.cell? ⟨b_A, 12, none⟩ = some (.int .i64 a10) := k_2_A.cell 12
  have c_2_A_13 : w_2.cell? ⟨b_A, 13, none⟩ = some (.int .i64 a11) := k_2_A.cell 13
  have l_2_A := k_2_A.lt
  clear i_1 k_1_A c_1_A_0 c_1_A_1 c_1_A_2 c_1_A_3 c_1_A_4 c_1_A_5 c_1_A_6 c_1_A_7 c_1_A_8 c_1_A_9 c_1_A_10 c_1_A_11 c_1_A_12 c_1_A_13 l_1_A hb_1
  cases h2 : dOk a0 a1 a2
  · have HV : Hid (yOk n xs m ys a0 a1 a2 a3 a4 a5 a6 a7 a8 a9 a10 a11 = false) := Lib.hid (by simp [yOk, h1, h2])
    go_wp2
    go_ret
    exact Val.mk' (v_bool HV.out.symm) (by (repeat (first | exact In.refl _ | assumption | apply In.alloc | apply In.drewN | apply In.drew | (refine In.step ?_ (by assumption)))))
  go_wp2_with fail
  refine (iLoafOk a3 a4 _).mono ?_
  rintro _ w_3 ⟨rfl, hb_3⟩
  have i_3 : In w.heap.size w w_3 := In.step (by (repeat (first | exact In.refl _ | assumption | apply In.alloc | apply In.drewN | apply In.drew | (refine In.step ?_ (by assumption))))) hb_3
  have k_3_A : Blk w_3 b_A 45 #[.slice (some ⟨g, 0, none⟩) n c, .int .i64 a0, .int .i64 a1, .int .i64 a2, .int .i64 a3, .int .i64 a4, .slice (some ⟨h, 0, none⟩) m d, .int .i64 a5, .int .i64 a6, .int .i64 a7, .int .i64 a8, .int .i64 a9, .int .i64 a10, .int .i64 a11] := Blk.step (by (with_reducible (repeat (first | assumption | exact Blk.new' (by simp) | apply Blk.drewN | apply Blk.drew | apply Blk.alloc | (refine Blk.far ?_ (by (try simp) <;> omega) _))))) hb_3
  have c_3_A_0 : w_3.cell? ⟨b_A, 0, none⟩ = some (.slice (some ⟨g, 0, none⟩) n c) := k_3_A.cell 0
  have c_3_A_1 : w_3.cell? ⟨b_A, 1, none⟩ = some (.int .i64 a0) := k_3_A.cell 1
  have c_3_A_2 : w_3.cell? ⟨b_A, 2, none⟩ = some (.int .i64 a1) := k_3_A.cell 2
  have c_3_A_3 : w_3.cell? ⟨b_A, 3, none⟩ = some (.int .i64 a2) := k_3_A.cell 3
  have c_3_A_4 : w_3.cell? ⟨b_A, 4, none⟩ = some (.int .i64 a3) := k_3_A.cell 4
  have c_3_A_5 : w_3.cell? ⟨b_A, 5, none⟩ = some (.int .i64 a4) := k_3_A.cell 5
  have c_3_A_6 : w_3.cell? ⟨b_A, 6, none⟩ = some (.slice (some ⟨h, 0, none⟩) m d) := k_3_A.cell 6
  have c_3_A_7 : w_3.cell? ⟨b_A, 7, none⟩ = some (.int .i64 a5) := k_3_A.cell 7
  have c_3_A_8 : w_3.cell? ⟨b_A, 8, none⟩ = some (.int .i64 a6) := k_3_A.cell 8
  have c_3_A_9 : w_3.cell? ⟨b_A, 9, none⟩ = some (.int .i64 a7) := k_3_A.cell 9
  have c_3_A_10 : w_3.cell? ⟨b_A, 10, none⟩ = some (.int .i64 a8) := k_3_A.cell 10
  have c_3_A_11 : w_3.cell? ⟨b_A, 11, none⟩ = some (.int .i64 a9) := k_3_A.cell 11
  have c_3_A_12 : w_3.cell? ⟨b_A, 12, none⟩ = some (.int .i64 a10) := k_3_A.cell 12
  have c_3_A_13 : w_3.cell? ⟨b_A, 13, none⟩ = some (.int .i64 a11) := k_3_A.cell 13
  have l_3_A := k_3_A.lt
  clear i_2 k_2_A c_2_A_0 c_2_A_1 c_2_A_2 c_2_A_3 c_2_A_4 c_2_A_5 c_2_A_6 c_2_A_7 c_2_A_8 c_2_A_9 c_2_A_10 c_2_A_11 c_2_A_12 c_2_A_13 l_2_A hb_2
  cases h3 : loafB a3 a4
  · have HV : Hid (yOk n xs m ys a0 a1 a2 a3 a4 a5 a6 a7 a8 a9 a10 a11 = false) := Lib.hid (by simp [yOk, h1, h2, h3])
    go_wp2
    go_ret
    exact Val.mk' (v_bool HV.out.symm) (by (repeat (first | exact In.refl _ | assumption | apply In.alloc | apply In.drewN | apply In.drew | (refine In.step ?_ (by assumption)))))
  go_wp2_with fail
  refine (iBookOk h m d ys a5 a6 a7 a8 a9 a10 _ (by omega) (HY.out.in_ (by (repeat (first | exact In.refl _ | assumption | apply In.alloc | apply In.drewN | apply In.drew | (refine In.step ?_ (by assumption))))))).mono ?_
  rintro _ w_4 ⟨rfl, hb_4⟩
  have i_4 : In w.heap.size w w_4 := In.step (by (repeat (first | exact In.refl _ | assumption | apply In.alloc | apply In.drewN | apply In.drew | (refine In.step ?_ (by assumption))))) hb_4
  have k_4_A : Blk w_4 b_A 45 #[.slice (some ⟨g, 0, none⟩) n c, .int .i64 a0, .int .i64 a1, .int .i64 a2, .int .i64 a3, .int .i64 a4, .slice (some ⟨h, 0, none⟩) m d, .int .i64 a5, .int .i64 a6, .int .i64 a7, .int .i64 a8, .int .i64 a9, .int .i64 a10, .int .i64 a11] := Blk.step (by (with_reducible (repeat (first | assumption | exact Blk.new' (by simp) | apply Blk.drewN | apply Blk.drew | apply Blk.alloc | (refine Blk.far ?_ (by (try simp) <;> omega) _))))) hb_4
  have c_4_A_0 : w_4.cell? ⟨b_A, 0, none⟩ = some (.slice (some ⟨g, 0, none⟩) n c) := k_4_A.cell 0
  have c_4_A_1 : w_4.cell? ⟨b_A, 1, none⟩ = some (.int .i64 a0) := k_4_A.cell 1
  have c_4_A_2 : w_4.cell? ⟨b_A, 2, none⟩ = some (.int .i64 a1) := k_4_A.cell 2
  have c_4_A_3 : w_4.cell? ⟨b_A, 3, none⟩ = some (.int .i64 a2) := k_4_A.cell 3
  have c_4_A_4 : w_4.cell? ⟨b_A, 4, none⟩ = some (.int .i64 a3) := k_4_A.cell 4
  have c_4_A_5 : w_4.cell? ⟨b_A, 5, none⟩ = some (.int .i64 a4) := k_4_A.cell 5
  have c_4_A_6 : w_4.cell? ⟨b_A, 6, none⟩ = some (.slice (some ⟨h, 0, none⟩) m d) := k_4_A.cell 6
  have c_4_A_7 : w_4.cell? ⟨b_A, 7, none⟩ = some (.int .i64 a5) := k_4_A.cell 7
  have c_4_A_8 : w_4.cell? ⟨b_A, 8, none⟩ = some (.int .i64 a6) := k_4_A.cell 8
  have c_4_A_9 : w_4.cell? ⟨b_A, 9, none⟩ = some (.int .i64 a7) := k_4_A.cell 9
  have c_4_A_10 : w_4.cell? ⟨b_A, 10, none⟩ = some (.int .i64 a8) := k_4_A.cell 10
  have c_4_A_11 : w_4.cell? ⟨b_A, 11, none⟩ = some (.int .i64 a9) := k_4_A.cell 11
  have c_4_A_12 : w_4.cell? ⟨b_A, 12, none⟩ = some (.int .i64 a10) := k_4_A.cell 12
  have c_4_A_13 : w_4.cell? ⟨b_A, 13, none⟩ = some (.int .i64 a11) := k_4_A.cell 13
  have l_4_A := k_4_A.lt
  clear i_3 k_3_A c_3_A_0 c_3_A_1 c_3_A_2 c_3_A_3 c_3_A_4 c_3_A_5 c_3_A_6 c_3_A_7 c_3_A_8 c_3_A_9 c_3_A_10 c_3_A_11 c_3_A_12 c_3_A_13 l_3_A hb_3
  cases h4 : bkB m ys a5 a6 a7 a8 a9 a10
  · have HV : Hid (yOk n xs m ys a0 a1 a2 a3 a4 a5 a6 a7 a8 a9 a10 a11 = false) := Lib.hid (by simp [yOk, h1, h2, h3, h4])
    go_wp2
    go_ret
    exact Val.mk' (v_bool HV.out.symm) (by (repeat (first | exact In.refl _ | assumption | apply In.alloc | apply In.drewN | apply In.drew | (refine In.step ?_ (by assumption)))))
  have HV : Hid (yOk n xs m ys a0 a1 a2 a3 a4 a5 a6 a7 a8 a9 a10 a11 = inB a11 0 1000000) := Lib.hid (by simp [yOk, h1, h2, h3, h4])
  go_wp2_with fail
  refine (iIn a11 0 1000000 _).mono ?_
  rintro _ _ ⟨rfl, rfl⟩
  go_wp2
  go_ret
  exact Val.mk' (v_bool HV.out.symm) (by (repeat (first | exact In.refl _ | assumption | apply In.alloc | apply In.drewN | apply In.drew | (refine In.step ?_ (by assumption)))))
end Go.Proofs.Ytmcfghklfkmfkaa
/- Chapter 38: FlourNeeded. -/
namespace Go.Proofs.Ytmcfghklfkmfkaa
open Go.ChangeShapes Go.WideShapes Go.ChangeAt Go.RowKit
set_option linter.unusedVariables false
set_option linter.unusedSimpArgs false
set_option maxHeartbeats 2000000

end Go.Proofs.Ytmcfghklfkmfkaa
