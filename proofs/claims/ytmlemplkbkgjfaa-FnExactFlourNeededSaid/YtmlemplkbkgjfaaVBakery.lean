/- Bakery: size and comparison. -/
import Derived.Test.YtmlemplkbkgjfaaWBakery
namespace Go.Proofs.Ytmlemplkbkgjfaa
open Go.ChangeShapes Go.WideShapes Go.ChangeAt Go.RowKit
set_option linter.unusedVariables false
set_option linter.unusedSimpArgs false
set_option maxHeartbeats 2000000

theorem szBakery_w (A : Option Addr) (n c : Nat) (B : Option Addr) (m d : Nat) (a0 a1 a2 a3 a4 a5 a6 a7 a8 a9 a10 a11 : Int) (left : Int) (w : World) (hn : n ≤ maxLen) (hm : m ≤ maxLen) (h1 : 0 ≤ left) (h2 : left ≤ 2000000) : Calls Try.prog 42 #[.agg #[.slice A n c, .int .i64 a0, .int .i64 a1, .int .i64 a2, .int .i64 a3, .int .i64 a4, .slice B m d, .int .i64 a5, .int .i64 a6, .int .i64 a7, .int .i64 a8, .int .i64 a9, .int .i64 a10, .int .i64 a11], .int .i64 left] w (Val (.int .i64 (if left < (n : Int) + (m : Int) then -1 else left - n - m)) w) := by
  have HS := Lib.hid (fun W => szStock_c A n c left W hn h1 h2)
  by_cases h : left < n
  · rw [if_pos h] at HS
    have HV : Hid ((if left < (n : Int) + (m : Int) then -1 else left - n - m) = -1) := Lib.hid (if_pos (by omega))
    go_enter Try.func42, Try.ntmps42
    go_wp2_with fail
    refine (HS.out _).mono ?_
    rintro _ w_1 ⟨rfl, hb_1⟩
    have i_1 : In w.heap.size w w_1 := In.step (by (repeat (first | exact In.refl _ | assumption | apply In.alloc | apply In.drewN | apply In.drew | (refine In.step ?_ (by assumption))))) hb_1
    go_wp2
    go_ret
    exact Val.mk' (by first | rfl | exact v_int HV.out.symm) (by (repeat (first | exact In.refl _ | assumption | apply In.alloc | apply In.drewN | apply In.drew | (refine In.step ?_ (by assumption)))))
  · rw [if_neg h] at HS
    have hd : decide (left - (n : Int) < 0) = false := by simp; omega
    have HB := Lib.hid (fun W => szBook_w B m d a5 a6 a7 a8 a9 a10 (left - n) W hm (by omega) (by omega))
    by_cases h3 : left - n < m
    · rw [if_pos h3] at HB
      have HV : Hid ((if left < (n : Int) + (m : Int) then -1 else left - n - m) = -1) := Lib.hid (if_pos (by omega))
      have k1 : Blk (w.alloc (.cells #[.slice A n c, .int .i64 a0, .int .i64 a1, .int .i64 a2, .int .i64 a3, .int .i64 a4, .slice B m d, .int .i64 a5, .int .i64 a6, .int .i64 a7, .int .i64 a8, .int .i64 a9, .int .i64 a10, .int .i64 a11] 70)) w.heap.size 70 #[.slice A n c, .int .i64 a0, .int .i64 a1, .int .i64 a2, .int .i64 a3, .int .i64 a4, .slice B m d, .int .i64 a5, .int .i64 a6, .int .i64 a7, .int .i64 a8, .int .i64 a9, .int .i64 a10, .int .i64 a11] := Blk.new w _ _
      go_enter Try.func42, Try.ntmps42
      go_wp2_with fail
      refine (HS.out _).mono ?_
      rintro _ w_1 ⟨rfl, hb_1⟩
      have i_1 : In w.heap.size w w_1 := In.step (by (repeat (first | exact In.refl _ | assumption | apply In.alloc | apply In.drewN | apply In.drew | (refine In.step ?_ (by assumption))))) hb_1
      have k2 := Blk.step k1 hb_1
      have c6 := k2.cell 6
      have c7 := k2.cell 7
      have c8 := k2.cell 8
      have c9 := k2.cell 9
      have c10 := k2.cell 10
      have c11 := k2.cell 11
      have c12 := k2.cell 12
      go_wp2_with fail
      refine (HB.out _).mono ?_
      rintro _ w_2 ⟨rfl, hb_2⟩
      have i_2 : In w.heap.size w w_2 := In.step (by (repeat (first | exact In.refl _ | assumption | apply In.alloc | apply In.drewN | apply In.drew | (refine In.step ?_ (by assumption))))) hb_2
      go_wp2
      go_ret
      exact Val.mk' (by first | rfl | exact v_int HV.out.symm) (by (repeat (first | exact In.refl _ | assumption | apply In.alloc | apply In.drewN | apply In.drew | (refine In.step ?_ (by assumption)))))
    · rw [if_neg h3] at HB
      have HV : Hid ((if left < (n : Int) + (m : Int) then -1 else left - n - m) = left - n - m) := Lib.hid (if_neg (by omega))
      have k1 : Blk (w.alloc (.cells #[.slice A n c, .int .i64 a0, .int .i64 a1, .int .i64 a2, .int .i64 a3, .int .i64 a4, .slice B m d, .int .i64 a5, .int .i64 a6, .int .i64 a7, .int .i64 a8, .int .i64 a9, .int .i64 a10, .int .i64 a11] 70)) w.heap.size 70 #[.slice A n c, .int .i64 a0, .int .i64 a1, .int .i64 a2, .int .i64 a3, .int .i64 a4, .slice B m d, .int .i64 a5, .int .i64 a6, .int .i64 a7, .int .i64 a8, .int .i64 a9, .int .i64 a10, .int .i64 a11] := Blk.new w _ _
      have hd2 : decide (left - (n : Int) - (m : Int) < 0) = false := by simp; omega
      go_enter Try.func42, Try.ntmps42
      go_wp2_with fail
      refine (HS.out _).mono ?_
      rintro _ w_1 ⟨rfl, hb_1⟩
      have i_1 : In w.heap.size w w_1 := In.step (by (repeat (first | exact In.refl _ | assumption | apply In.alloc | apply In.drewN | apply In.drew | (refine In.step ?_ (by assumption))))) hb_1
      have k2 := Blk.step k1 hb_1
      have c6 := k2.cell 6
      have c7 := k2.cell 7
      have c8 := k2.cell 8
      have c9 := k2.cell 9
      have c10 := k2.cell 10
      have c11 := k2.cell 11
      have c12 := k2.cell 12
      go_wp2_with fail
      refine (HB.out _).mono ?_
      rintro _ w_2 ⟨rfl, hb_2⟩
      have i_2 : In w.heap.size w w_2 := In.step (by (repeat (first | exact In.refl _ | assumption | apply In.alloc | apply In.drewN | apply In.drew | (refine In.step ?_ (by assumption))))) hb_2
      go_wp2
      go_ret
      exact Val.mk' (by first | rfl | exact v_int HV.out.symm) (by (repeat (first | exact In.refl _ | assumption | apply In.alloc | apply In.drewN | apply In.drew | (refine In.step ?_ (by assumption)))))
theorem eqBakery_w (A A2 : Option Addr) (n c c2 : Nat) (xs : List Int) (B B2 : Option Addr) (m d d2 : Nat) (ys : List EventR) (a0 a1 a2 a3 a4 a5 a6 a7 a8 a9 a10 a11 : Int) (w : World) (hn : n ≤ maxLen) (hm : m ≤ maxLen) (hx : ReadsI w A n xs) (hx2 : ReadsI w A2 n xs) (hy : ReadsEvent w B m ys) (hy2 : ReadsEvent w B2 m ys) : Calls Try.prog 46 #[.agg #[.slice A n c, .int .i64 a0, .int .i64 a1, .int .i64 a2, .int .i64 a3, .int .i64 a4, .slice B m d, .int .i64 a5, .int .i64 a6, .int .i64 a7, .int .i64 a8, .int .i64 a9, .int .i64 a10, .int .i64 a11], .agg #[.slice A2 n c2, .int .i64 a0, .int .i64 a1, .int .i64 a2, .int .i64 a3, .int .i64 a4, .slice B2 m d2, .int .i64 a5, .int .i64 a6, .int .i64 a7, .int .i64 a8, .int .i64 a9, .int .i64 a10, .int .i64 a11]] w (Val (.bool true) w) := by
  have HX := Lib.hid hx
  have HX2 := Lib.hid hx2
  have HY := Lib.hid hy
  have HY2 := Lib.hid hy2
  clear hx hx2 hy hy2
  obtain ⟨b_A, hbx_A⟩ : ∃ b, b = w.heap.size := ⟨_, rfl⟩
  have kk_A : Blk ((w.alloc (.cells #[.slice A n c, .int .i64 a0, .int .i64 a1, .int .i64 a2, .int .i64 a3, .int .i64 a4, .slice B m d, .int .i64 a5, .int .i64 a6, .int .i64 a7, .int .i64 a8, .int .i64 a9, .int .i64 a10, .int .i64 a11] 76)).alloc (.cells #[.slice A2 n c2, .int .i64 a0, .int .i64 a1, .int .i64 a2, .int .i64 a3, .int .i64 a4, .slice B2 m d2, .int .i64 a5, .int .i64 a6, .int .i64 a7, .int .i64 a8, .int .i64 a9, .int .i64 a10, .int .i64 a11] 76)) b_A 76 #[.slice A n c, .int .i64 a0, .int .i64 a1, .int .i64 a2, .int .i64 a3, .int .i64 a4, .slice B m d, .int .i64 a5, .int .i64 a6, .int .i64 a7, .int .i64 a8, .int .i64 a9, .int .i64 a10, .int .i64 a11] := ((Blk.new' (w := w) (t := 76) (cs := #[.slice A n c, .int .i64 a0, .int .i64 a1, .int .i64 a2, .int .i64 a3, .int .i64 a4, .slice B m d, .int .i64 a5, .int .i64 a6, .int .i64 a7, .int .i64 a8, .int .i64 a9, .int .i64 a10, .int .i64 a11]) (g := b_A) (by simp [hbx_A])).alloc (.cells #[.slice A2 n c2, .int .i64 a0, .int .i64 a1, .int .i64 a2, .int .i64 a3, .int .i64 a4, .slice B2 m d2, .int .i64 a5, .int .i64 a6, .int .i64 a7, .int .i64 a8, .int .i64 a9, .int .i64 a10, .int .i64 a11] 76))
  have hwb_A : w.heap.size ≤ b_A := by omega
  obtain ⟨b_B, hbx_B⟩ : ∃ b, b = w.heap.size + 1 := ⟨_, rfl⟩
  have kk_B : Blk ((w.alloc (.cells #[.slice A n c, .int .i64 a0, .int .i64 a1, .int .i64 a2, .int .i64 a3, .int .i64 a4, .slice B m d, .int .i64 a5, .int .i64 a6, .int .i64 a7, .int .i64 a8, .int .i64 a9, .int .i64 a10, .int .i64 a11] 76)).alloc (.cells #[.slice A2 n c2, .int .i64 a0, .int .i64 a1, .int .i64 a2, .int .i64 a3, .int .i64 a4, .slice B2 m d2, .int .i64 a5, .int .i64 a6, .int .i64 a7, .int .i64 a8, .int .i64 a9, .int .i64 a10, .int .i64 a11] 76)) b_B 76 #[.slice A2 n c2, .int .i64 a0, .int .i64 a1, .int .i64 a2, .int .i64 a3, .int .i64 a4, .slice B2 m d2, .int .i64 a5, .int .i64 a6, .int .i64 a7, .int .i64 a8, .int .i64 a9, .int .i64 a10, .int .i64 a11] := (Blk.new' (w := (w.alloc (.cells #[.slice A n c, .int .i64 a0, .int .i64 a1, .int .i64 a2, .int .i64 a3, .int .i64 a4, .slice B m d, .int .i64 a5, .int .i64 a6, .int .i64 a7, .int .i64 a8, .int .i64 a9, .int .i64 a10, .int .i64 a11] 76))) (t := 76) (cs := #[.slice A2 n c2, .int .i64 a0, .int .i64 a1, .int .i64 a2, .int .i64 a3, .int .i64 a4, .slice B2 m d2, .int .i64 a5, .int .i64 a6, .int .i64 a7, .int .i64 a8, .int .i64 a9, .int .i64 a10, .int .i64 a11]) (g := b_B) (by simp [hbx_B]))
  have hwb_B : w.heap.size ≤ b_B := by omega
  have NB_A_B : Hid (b_A ≠ b_B) := Lib.hid (by omega)
  have hb_0 : Below w.heap.size w ((w.alloc (.cells #[.slice A n c, .int .i64 a0, .int .i64 a1, .int .i64 a2, .int .i64 a3, .int .i64 a4, .slice B m d, .int .i64 a5, .int .i64 a6, .int .i64 a7, .int .i64 a8, .int .i64 a9, .int .i64 a10, .int .i64 a11] 76)).alloc (.cells #[.slice A2 n c2, .int .i64 a0, .int .i64 a1, .int .i64 a2, .int .i64 a3, .int .i64 a4, .slice B2 m d2, .int .i64 a5, .int .i64 a6, .int .i64 a7, .int .i64 a8, .int .i64 a9, .int .i64 a10, .int .i64 a11] 76)) := by
    have h : In w.heap.size w ((w.alloc (.cells #[.slice A n c, .int .i64 a0, .int .i64 a1, .int .i64 a2, .int .i64 a3, .int .i64 a4, .slice B m d, .int .i64 a5, .int .i64 a6, .int .i64 a7, .int .i64 a8, .int .i64 a9, .int .i64 a10, .int .i64 a11] 76)).alloc (.cells #[.slice A2 n c2, .int .i64 a0, .int .i64 a1, .int .i64 a2, .int .i64 a3, .int .i64 a4, .slice B2 m d2, .int .i64 a5, .int .i64 a6, .int .i64 a7, .int .i64 a8, .int .i64 a9, .int .i64 a10, .int .i64 a11] 76)) := by (repeat (first | exact In.refl _ | assumption | apply In.alloc | apply In.drewN | apply In.drew | (refine In.step ?_ (by assumption))))
    exact h.below
  have hsz_0 : ((w.alloc (.cells #[.slice A n c, .int .i64 a0, .int .i64 a1, .int .i64 a2, .int .i64 a3, .int .i64 a4, .slice B m d, .int .i64 a5, .int .i64 a6, .int .i64 a7, .int .i64 a8, .int .i64 a9, .int .i64 a10, .int .i64 a11] 76)).alloc (.cells #[.slice A2 n c2, .int .i64 a0, .int .i64 a1, .int .i64 a2, .int .i64 a3, .int .i64 a4, .slice B2 m d2, .int .i64 a5, .int .i64 a6, .int .i64 a7, .int .i64 a8, .int .i64 a9, .int .i64 a10, .int .i64 a11] 76)).heap.size = b_B + 1 := by simp [hbx_B]
  go_enter Try.func46, Try.ntmps46
  go_wp2_with fail
  rw [← hbx_B]
  clear hbx_B
  rw [← hbx_A]
  clear hbx_A
  generalize ((w.alloc (.cells #[.slice A n c, .int .i64 a0, .int .i64 a1, .int .i64 a2, .int .i64 a3, .int .i64 a4, .slice B m d, .int .i64 a5, .int .i64 a6, .int .i64 a7, .int .i64 a8, .int .i64 a9, .int .i64 a10, .int .i64 a11] 76)).alloc (.cells #[.slice A2 n c2, .int .i64 a0, .int .i64 a1, .int .i64 a2, .int .i64 a3, .int .i64 a4, .slice B2 m d2, .int .i64 a5, .int .i64 a6, .int .i64 a7, .int .i64 a8, .int .i64 a9, .int .i64 a10, .int .i64 a11] 76)) = w_0 at *
  have i_0 : In w.heap.size w w_0 := In.step (by (repeat (first | exact In.refl _ | assumption | apply In.alloc | apply In.drewN | apply In.drew | (refine In.step ?_ (by assumption))))) hb_0
  have k_0_A : Blk w_0 b_A 76 #[.slice A n c, .int .i64 a0, .int .i64 a1, .int .i64 a2, .int .i64 a3, .int .i64 a4, .slice B m d, .int .i64 a5, .int .i64 a6, .int .i64 a7, .int .i64 a8, .int .i64 a9, .int .i64 a10, .int .i64 a11] := kk_A
  have c_0_A_0 : w_0.cell? ⟨b_A, 0, none⟩ = some (.slice A n c) := k_0_A.cell 0
  have c_0_A_1 : w_0.cell? ⟨b_A, 1, none⟩ = some (.int .i64 a0) := k_0_A.cell 1
  have c_0_A_2 : w_0.cell? ⟨b_A, 2, none⟩ = some (.int .i64 a1) := k_0_A.cell 2
  have c_0_A_3 : w_0.cell? ⟨b_A, 3, none⟩ = some (.int .i64 a2) := k_0_A.cell 3
  have c_0_A_4 : w_0.cell? ⟨b_A, 4, none⟩ = some (.int .i64 a3) := k_0_A.cell 4
  have c_0_A_5 : w_0.cell? ⟨b_A, 5, none⟩ = some (.int .i64 a4) := k_0_A.cell 5
  have c_0_A_6 : w_0.cell? ⟨b_A, 6, none⟩ = some (.slice B m d) := k_0_A.cell 6
  have c_0_A_7 : w_0.cell? ⟨b_A, 7, none⟩ = some (.int .i64 a5) := k_0_A.cell 7
  have c_0_A_8 : w_0.cell? ⟨b_A, 8, none⟩ = some (.int .i64 a6) := k_0_A.cell 8
  have c_0_A_9 : w_0.cell? ⟨b_A, 9, none⟩ = some (.int .i64 a7) := k_0_A.cell 9
  have c_0_A_10 : w_0.cell? ⟨b_A, 10, none⟩ = some (.int .i64 a8) := k_0_A.cell 10
  have c_0_A_11 : w_0.cell? ⟨b_A, 11, none⟩ = some (.int .i64 a9) := k_0_A.cell 11
  have c_0_A_12 : w_0.cell? ⟨b_A, 12, none⟩ = some (.int .i64 a10) := k_0_A.cell 12
  have c_0_A_13 : w_0.cell? ⟨b_A, 13, none⟩ = some (.int .i64 a11) := k_0_A.cell 13
  have l_0_A := k_0_A.lt
  have k_0_B : Blk w_0 b_B 76 #[.slice A2 n c2, .int .i64 a0, .int .i64 a1, .int .i64 a2, .int .i64 a3, .int .i64 a4, .slice B2 m d2, .int .i64 a5, .int .i64 a6, .int .i64 a7, .int .i64 a8, .int .i64 a9, .int .i64 a10, .int .i64 a11] := kk_B
  have c_0_B_0 : w_0.cell? ⟨b_B, 0, none⟩ = some (.slice A2 n c2) := k_0_B.cell 0
  have c_0_B_1 : w_0.cell? ⟨b_B, 1, none⟩ = some (.int .i64 a0) := k_0_B.cell 1
  have c_0_B_2 : w_0.cell? ⟨b_B, 2, none⟩ = some (.int .i64 a1) := k_0_B.cell 2
  have c_0_B_3 : w_0.cell? ⟨b_B, 3, none⟩ = some (.int .i64 a2) := k_0_B.cell 3
  have c_0_B_4 : w_0.cell? ⟨b_B, 4, none⟩ = some (.int .i64 a3) := k_0_B.cell 4
  have c_0_B_5 : w_0.cell? ⟨b_B, 5, none⟩ = some (.int .i64 a4) := k_0_B.cell 5
  have c_0_B_6 : w_0.cell? ⟨b_B, 6, none⟩ = some (.slice B2 m d2) := k_0_B.cell 6
  have c_0_B_7 : w_0.cell? ⟨b_B, 7, none⟩ = some (.int .i64 a5) := k_0_B.cell 7
  have c_0_B_8 : w_0.cell? ⟨b_B, 8, none⟩ = some (.int .i64 a6) := k_0_B.cell 8
  have c_0_B_9 : w_0.cell? ⟨b_B, 9, none⟩ = some (.int .i64 a7) := k_0_B.cell 9
  have c_0_B_10 : w_0.cell? ⟨b_B, 10, none⟩ = some (.int .i64 a8) := k_0_B.cell 10
  have c_0_B_11 : w_0.cell? ⟨b_B, 11, none⟩ = some (.int .i64 a9) := k_0_B.cell 11
  have c_0_B_12 : w_0.cell? ⟨b_B, 12, none⟩ = some (.int .i64 a10) := k_0_B.cell 12
  have c_0_B_13 : w_0.cell? ⟨b_B, 13, none⟩ = some (.int .i64 a11) := k_0_B.cell 13
  have l_0_B := k_0_B.lt
  clear kk_A kk_B
  go_wp2_with fail
  refine (eqStock_c A A2 n c c2 xs _ hn (HX.out.in_ (by (repeat (first | exact In.refl _ | assumption | apply In.alloc | apply In.drewN | apply In.drew | (refine In.step ?_ (by assumption)))))) (HX2.out.in_ (by (repeat (first | exact In.refl _ | assumption | apply In.alloc | apply In.drewN | apply In.drew | (refine In.step ?_ (by assumption))))))).mono ?_
  rintro _ w_1 ⟨rfl, hb_1⟩
  have i_1 : In w.heap.size w w_1 := In.step (by (repeat (first | exact In.refl _ | assumption | apply In.alloc | apply In.drewN | apply In.drew | (refine In.step ?_ (by assumption))))) hb_1
  have k_1_A : Blk w_1 b_A 76 #[.slice A n c, .int .i64 a0, .int .i64 a1, .int .i64 a2, .int .i64 a3, .int .i64 a4, .slice B m d, .int .i64 a5, .int .i64 a6, .int .i64 a7, .int .i64 a8, .int .i64 a9, .int .i64 a10, .int .i64 a11] := Blk.step (by (with_reducible (repeat (first | assumption | exact Blk.new' (by simp) | apply Blk.drewN | apply Blk.drew | apply Blk.alloc | (refine Blk.far ?_ (by (try simp) <;> omega) _))))) hb_1
  have c_1_A_0 : w_1.cell? ⟨b_A, 0, none⟩ = some (.slice A n c) := k_1_A.cell 0
  have c_1_A_1 : w_1.cell? ⟨b_A, 1, none⟩ = some (.int .i64 a0) := k_1_A.cell 1
  have c_1_A_2 : w_1.cell? ⟨b_A, 2, none⟩ = some (.int .i64 a1) := k_1_A.cell 2
  have c_1_A_3 : w_1.cell? ⟨b_A, 3, none⟩ = some (.int .i64 a2) := k_1_A.cell 3
  have c_1_A_4 : w_1.cell? ⟨b_A, 4, none⟩ = some (.int .i64 a3) := k_1_A.cell 4
  have c_1_A_5 : w_1.cell? ⟨b_A, 5, none⟩ = some (.int .i64 a4) := k_1_A.cell 5
  have c_1_A_6 : w_1.cell? ⟨b_A, 6, none⟩ = some (.slice B m d) := k_1_A.cell 6
  have c_1_A_7 : w_1.cell? ⟨b_A, 7, none⟩ = some (.int .i64 a5) := k_1_A.cell 7
  have c_1_A_8 : w_1.cell? ⟨b_A, 8, none⟩ = some (.int .i64 a6) := k_1_A.cell 8
  have c_1_A_9 : w_1.cell? ⟨b_A, 9, none⟩ = some (.int .i64 a7) := k_1_A.cell 9
  have c_1_A_10 : w_1.cell? ⟨b_A, 10, none⟩ = some (.int .i64 a8) := k_1_A.cell 10
  have c_1_A_11 : w_1.cell? ⟨b_A, 11, none⟩ = some (.int .i64 a9) := k_1_A.cell 11
  have c_1_A_12 : w_1.cell? ⟨b_A, 12, none⟩ = some (.int .i64 a10) := k_1_A.cell 12
  have c_1_A_13 : w_1.cell? ⟨b_A, 13, none⟩ = some (.int .i64 a11) := k_1_A.cell 13
  have l_1_A := k_1_A.lt
  have k_1_B : Blk w_1 b_B 76 #[.slice A2 n c2, .int .i64 a0, .int .i64 a1, .int .i64 a2, .int .i64 a3, .int .i64 a4, .slice B2 m d2, .int .i64 a5, .int .i64 a6, .int .i64 a7, .int .i64 a8, .int .i64 a9, .int .i64 a10, .int .i64 a11] := Blk.step (by (with_reducible (repeat (first | assumption | exact Blk.new' (by simp) | apply Blk.drewN | apply Blk.drew | apply Blk.alloc | (refine Blk.far ?_ (by (try simp) <;> omega) _))))) hb_1
  have c_1_B_0 : w_1.cell? ⟨b_B, 0, none⟩ = some (.slice A2 n c2) := k_1_B.cell 0
  have c_1_B_1 : w_1.cell? ⟨b_B, 1, none⟩ = some (.int .i64 a0) := k_1_B.cell 1
  have c_1_B_2 : w_1.cell? ⟨b_B, 2, none⟩ = some (.int .i64 a1) := k_1_B.cell 2
  have c_1_B_3 : w_1.cell? ⟨b_B, 3, none⟩ = some (.int .i64 a2) := k_1_B.cell 3
  have c_1_B_4 : w_1.cell? ⟨b_B, 4, none⟩ = some (.int .i64 a3) := k_1_B.cell 4
  have c_1_B_5 : w_1.cell? ⟨b_B, 5, none⟩ = some (.int .i64 a4) := k_1_B.cell 5
  have c_1_B_6 : w_1.cell? ⟨b_B, 6, none⟩ = some (.slice B2 m d2) := k_1_B.cell 6
  have c_1_B_7 : w_1.cell? ⟨b_B, 7, none⟩ = some (.int .i64 a5) := k_1_B.cell 7
  have c_1_B_8 : w_1.cell? ⟨b_B, 8, none⟩ = some (.int .i64 a6) := k_1_B.cell 8
  have c_1_B_9 : w_1.cell? ⟨b_B, 9, none⟩ = some (.int .i64 a7) := k_1_B.cell 9
  have c_1_B_10 : w_1.cell? ⟨b_B, 10, none⟩ = some (.int .i64 a8) := k_1_B.cell 10
  have c_1_B_11 : w_1.cell? ⟨b_B, 11, none⟩ = some (.int .i64 a9) := k_1_B.cell 11
  have c_1_B_12 : w_1.cell? ⟨b_B, 12, none⟩ = some (.int .i64 a10) := k_1_B.cell 12
  have c_1_B_13 : w_1.cell? ⟨b_B, 13, none⟩ = some (.int .i64 a11) := k_1_B.cell 13
  have l_1_B := k_1_B.lt
  clear i_0 k_0_A c_0_A_0 c_0_A_1 c_0_A_2 c_0_A_3 c_0_A_4 c_0_A_5 c_0_A_6 c_0_A_7 c_0_A_8 c_0_A_9 c_0_A_10 c_0_A_11 c_0_A_12 c_0_A_13 l_0_A k_0_B c_0_B_0 c_0_B_1 c_0_B_2 c_0_B_3 c_0_B_4 c_0_B_5 c_0_B_6 c_0_B_7 c_0_B_8 c_0_B_9 c_0_B_10 c_0_B_11 c_0_B_12 c_0_B_13 l_0_B hb_0
  go_wp2_with fail
  refine (eqDough_c a0 a1 a2 _).mono ?_
  rintro _ w_2 ⟨rfl, hb_2⟩
  have i_2 : In w.heap.size w w_2 := In.step (by (repeat (first | exact In.refl _ | assumption | apply In.alloc | apply In.drewN | apply In.drew | (refine In.step ?_ (by assumption))))) hb_2
  have k_2_A : Blk w_2 b_A 76 #[.slice A n c, .int .i64 a0, .int .i64 a1, .int .i64 a2, .int .i64 a3, .int .i64 a4, .slice B m d, .int .i64 a5, .int .i64 a6, .int .i64 a7, .int .i64 a8, .int .i64 a9, .int .i64 a10, .int .i64 a11] := Blk.step (by (with_reducible (repeat (first | assumption | exact Blk.new' (by simp) | apply Blk.drewN | apply Blk.drew | apply Blk.alloc | (refine Blk.far ?_ (by (try simp) <;> omega) _))))) hb_2
  have c_2_A_0 : w_2.cell? ⟨b_A, 0, none⟩ = some (.slice A n c) := k_2_A.cell 0
  have c_2_A_1 : w_2.cell? ⟨b_A, 1, none⟩ = some (.int .i64 a0) := k_2_A.cell 1
  have c_2_A_2 : w_2.cell? ⟨b_A, 2, none⟩ = some (.int .i64 a1) := k_2_A.cell 2
  have c_2_A_3 : w_2.cell? ⟨b_A, 3, none⟩ = some (.int .i64 a2) := k_2_A.cell 3
  have c_2_A_4 : w_2.cell? ⟨b_A, 4, none⟩ = some (.int .i64 a3) := k_2_A.cell 4
  have c_2_A_5 : w_2.cell? ⟨b_A, 5, none⟩ = some (.int .i64 a4) := k_2_A.cell 5
  have c_2_A_6 : w_2.cell? ⟨b_A, 6, none⟩ = some (.slice B m d) := k_2_A.cell 6
  have c_2_A_7 : w_2.cell? ⟨b_A, 7, none⟩ = some (.int .i64 a5) := k_2_A.cell 7
  have c_2_A_8 : w_2.cell? ⟨b_A, 8, none⟩ = some (.int .i64 a6) := k_2_A.cell 8
  have c_2_A_9 : w_2.cell? ⟨b_A, 9, none⟩ = some (.int .i64 a7) := k_2_A.cell 9
  have c_2_A_10 : w_2.cell? ⟨b_A, 10, none⟩ = some (.int .i64 a8) := k_2_A.cell 10
  have c_2_A_11 : w_2.cell? ⟨b_A, 11, none⟩ = some (.int .i64 a9) := k_2_A.cell 11
  have c_2_A_12 : w_2.cell? ⟨b_A, 12, none⟩ = some (.int .i64 a10) := k_2_A.cell 12
  have c_2_A_13 : w_2.cell? ⟨b_A, 13, none⟩ = some (.int .i64 a11) := k_2_A.cell 13
  have l_2_A := k_2_A.lt
  have k_2_B : Blk w_2 b_B 76 #[.slice A2 n c2, .int .i64 a0, .int .i64 a1, .int .i64 a2, .int .i64 a3, .int .i64 a4, .slice B2 m d2, .int .i64 a5, .int .i64 a6, .int .i64 a7, .int .i64 a8, .int .i64 a9, .int .i64 a10, .int .i64 a11] := Blk.step (by (with_reducible (repeat (first | assumption | exact Blk.new' (by simp) | apply Blk.drewN | apply Blk.drew | apply Blk.alloc | (refine Blk.far ?_ (by (try simp) <;> omega) _))))) hb_2
  have c_2_B_0 : w_2.cell? ⟨b_B, 0, none⟩ = some (.slice A2 n c2) := k_2_B.cell 0
  have c_2_B_1 : w_2.cell? ⟨b_B, 1, none⟩ = some (.int .i64 a0) := k_2_B.cell 1
  have c_2_B_2 : w_2.cell? ⟨b_B, 2, none⟩ = some (.int .i64 a1) := k_2_B.cell 2
  have c_2_B_3 : w_2.cell? ⟨b_B, 3, none⟩ = some (.int .i64 a2) := k_2_B.cell 3
  have c_2_B_4 : w_2.cell? ⟨b_B, 4, none⟩ = some (.int .i64 a3) := k_2_B.cell 4
  have c_2_B_5 : w_2.cell? ⟨b_B, 5, none⟩ = some (.int .i64 a4) := k_2_B.cell 5
  have c_2_B_6 : w_2.cell? ⟨b_B, 6, none⟩ = some (.slice B2 m d2) := k_2_B.cell 6
  have c_2_B_7 : w_2.cell? ⟨b_B, 7, none⟩ = some (.int .i64 a5) := k_2_B.cell 7
  have c_2_B_8 : w_2.cell? ⟨b_B, 8, none⟩ = some (.int .i64 a6) := k_2_B.cell 8
  have c_2_B_9 : w_2.cell? ⟨b_B, 9, none⟩ = some (.int .i64 a7) := k_2_B.cell 9
  have c_2_B_10 : w_2.cell? ⟨b_B, 10, none⟩ = some (.int .i64 a8) := k_2_B.cell 10
  have c_2_B_11 : w_2.cell? ⟨b_B, 11, none⟩ = some (.int .i64 a9) := k_2_B.cell 11
  have c_2_B_12 : w_2.cell? ⟨b_B, 12, none⟩ = some (.int .i64 a10) := k_2_B.cell 12
  have c_2_B_13 : w_2.cell? ⟨b_B, 13, none⟩ = some (.int .i64 a11) := k_2_B.cell 13
  have l_2_B := k_2_B.lt
  clear i_1 k_1_A c_1_A_0 c_1_A_1 c_1_A_2 c_1_A_3 c_1_A_4 c_1_A_5 c_1_A_6 c_1_A_7 c_1_A_8 c_1_A_9 c_1_A_10 c_1_A_11 c_1_A_12 c_1_A_13 l_1_A k_1_B c_1_B_0 c_1_B_1 c_1_B_2 c_1_B_3 c_1_B_4 c_1_B_5 c_1_B_6 c_1_B_7 c_1_B_8 c_1_B_9 c_1_B_10 c_1_B_11 c_1_B_12 c_1_B_13 l_1_B hb_1
  go_wp2_with fail
  refine (eqLoaf_c a3 a4 _).mono ?_
  rintro _ w_3 ⟨rfl, hb_3⟩
  have i_3 : In w.heap.size w w_3 := In.step (by (repeat (first | exact In.refl _ | assumption | apply In.alloc | apply In.drewN | apply In.drew | (refine In.step ?_ (by assumption))))) hb_3
  have k_3_A : Blk w_3 b_A 76 #[.slice A n c, .int .i64 a0, .int .i64 a1, .int .i64 a2, .int .i64 a3, .int .i64 a4, .slice B m d, .int .i64 a5, .int .i64 a6, .int .i64 a7, .int .i64 a8, .int .i64 a9, .int .i64 a10, .int .i64 a11] := Blk.step (by (with_reducible (repeat (first | assumption | exact Blk.new' (by simp) | apply Blk.drewN | apply Blk.drew | apply Blk.alloc | (refine Blk.far ?_ (by (try simp) <;> omega) _))))) hb_3
  have c_3_A_0 : w_3.cell? ⟨b_A, 0, none⟩ = some (.slice A n c) := k_3_A.cell 0
  have c_3_A_1 : w_3.cell? ⟨b_A, 1, none⟩ = some (.int .i64 a0) := k_3_A.cell 1
  have c_3_A_2 : w_3.cell? ⟨b_A, 2, none⟩ = some (.int .i64 a1) := k_3_A.cell 2
  have c_3_A_3 : w_3.cell? ⟨b_A, 3, none⟩ = some (.int .i64 a2) := k_3_A.cell 3
  have c_3_A_4 : w_3.cell? ⟨b_A, 4, none⟩ = some (.int .i64 a3) := k_3_A.cell 4
  have c_3_A_5 : w_3.cell? ⟨b_A, 5, none⟩ = some (.int .i64 a4) := k_3_A.cell 5
  have c_3_A_6 : w_3.cell? ⟨b_A, 6, none⟩ = some (.slice B m d) := k_3_A.cell 6
  have c_3_A_7 : w_3.cell? ⟨b_A, 7, none⟩ = some (.int .i64 a5) := k_3_A.cell 7
  have c_3_A_8 : w_3.cell? ⟨b_A, 8, none⟩ = some (.int .i64 a6) := k_3_A.cell 8
  have c_3_A_9 : w_3.cell? ⟨b_A, 9, none⟩ = some (.int .i64 a7) := k_3_A.cell 9
  have c_3_A_10 : w_3.cell? ⟨b_A, 10, none⟩ = some (.int .i64 a8) := k_3_A.cell 10
  have c_3_A_11 : w_3.cell? ⟨b_A, 11, none⟩ = some (.int .i64 a9) := k_3_A.cell 11
  have c_3_A_12 : w_3.cell? ⟨b_A, 12, none⟩ = some (.int .i64 a10) := k_3_A.cell 12
  have c_3_A_13 : w_3.cell? ⟨b_A, 13, none⟩ = some (.int .i64 a11) := k_3_A.cell 13
  have l_3_A := k_3_A.lt
  have k_3_B : Blk w_3 b_B 76 #[.slice A2 n c2, .int .i64 a0, .int .i64 a1, .int .i64 a2, .int .i64 a3, .int .i64 a4, .slice B2 m d2, .int .i64 a5, .int .i64 a6, .int .i64 a7, .int .i64 a8, .int .i64 a9, .int .i64 a10, .int .i64 a11] := Blk.step (by (with_reducible (repeat (first | assumption | exact Blk.new' (by simp) | apply Blk.drewN | apply Blk.drew | apply Blk.alloc | (refine Blk.far ?_ (by (try simp) <;> omega) _))))) hb_3
  have c_3_B_0 : w_3.cell? ⟨b_B, 0, none⟩ = some (.slice A2 n c2) := k_3_B.cell 0
  have c_3_B_1 : w_3.cell? ⟨b_B, 1, none⟩ = some (.int .i64 a0) := k_3_B.cell 1
  have c_3_B_2 : w_3.cell? ⟨b_B, 2, none⟩ = some (.int .i64 a1) := k_3_B.cell 2
  have c_3_B_3 : w_3.cell? ⟨b_B, 3, none⟩ = some (.int .i64 a2) := k_3_B.cell 3
  have c_3_B_4 : w_3.cell? ⟨b_B, 4, none⟩ = some (.int .i64 a3) := k_3_B.cell 4
  have c_3_B_5 : w_3.cell? ⟨b_B, 5, none⟩ = some (.int .i64 a4) := k_3_B.cell 5
  have c_3_B_6 : w_3.cell? ⟨b_B, 6, none⟩ = some (.slice B2 m d2) := k_3_B.cell 6
  have c_3_B_7 : w_3.cell? ⟨b_B, 7, none⟩ = some (.int .i64 a5) := k_3_B.cell 7
  have c_3_B_8 : w_3.cell? ⟨b_B, 8, none⟩ = some (.int .i64 a6) := k_3_B.cell 8
  have c_3_B_9 : w_3.cell? ⟨b_B, 9, none⟩ = some (.int .i64 a7) := k_3_B.cell 9
  have c_3_B_10 : w_3.cell? ⟨b_B, 10, none⟩ = some (.int .i64 a8) := k_3_B.cell 10
  have c_3_B_11 : w_3.cell? ⟨b_B, 11, none⟩ = some (.int .i64 a9) := k_3_B.cell 11
  have c_3_B_12 : w_3.cell? ⟨b_B, 12, none⟩ = some (.int .i64 a10) := k_3_B.cell 12
  have c_3_B_13 : w_3.cell? ⟨b_B, 13, none⟩ = some (.int .i64 a11) := k_3_B.cell 13
  have l_3_B := k_3_B.lt
  clear i_2 k_2_A c_2_A_0 c_2_A_1 c_2_A_2 c_2_A_3 c_2_A_4 c_2_A_5 c_2_A_6 c_2_A_7 c_2_A_8 c_2_A_9 c_2_A_10 c_2_A_11 c_2_A_12 c_2_A_13 l_2_A k_2_B c_2_B_0 c_2_B_1 c_2_B_2 c_2_B_3 c_2_B_4 c_2_B_5 c_2_B_6 c_2_B_7 c_2_B_8 c_2_B_9 c_2_B_10 c_2_B_11 c_2_B_12 c_2_B_13 l_2_B hb_2
  go_wp2_with fail
  refine (eqBook_w B B2 m d d2 ys a5 a6 a7 a8 a9 a10 _ hm (HY.out.in_ (by (repeat (first | exact In.refl _ | assumption | apply In.alloc | apply In.drewN | apply In.drew | (refine In.step ?_ (by assumption)))))) (HY2.out.in_ (by (repeat (first | exact In.refl _ | assumption | apply In.alloc | apply In.drewN | apply In.drew | (refine In.step ?_ (by assumption))))))).mono ?_
  rintro _ w_4 ⟨rfl, hb_4⟩
  have i_4 : In w.heap.size w w_4 := In.step (by (repeat (first | exact In.refl _ | assumption | apply In.alloc | apply In.drewN | apply In.drew | (refine In.step ?_ (by assumption))))) hb_4
  have k_4_A : Blk w_4 b_A 76 #[.slice A n c, .int .i64 a0, .int .i64 a1, .int .i64 a2, .int .i64 a3, .int .i64 a4, .slice B m d, .int .i64 a5, .int .i64 a6, .int .i64 a7, .int .i64 a8, .int .i64 a9, .int .i64 a10, .int .i64 a11] := Blk.step (by (with_reducible (repeat (first | assumption | exact Blk.new' (by simp) | apply Blk.drewN | apply Blk.drew | apply Blk.alloc | (refine Blk.far ?_ (by (try simp) <;> omega) _))))) hb_4
  have c_4_A_0 : w_4.cell? ⟨b_A, 0, none⟩ = some (.slice A n c) := k_4_A.cell 0
  have c_4_A_1 : w_4.cell? ⟨b_A, 1, none⟩ = some (.int .i64 a0) := k_4_A.cell 1
  have c_4_A_2 : w_4.cell? ⟨b_A, 2, none⟩ = some (.int .i64 a1) := k_4_A.cell 2
  have c_4_A_3 : w_4.cell? ⟨b_A, 3, none⟩ = some (.int .i64 a2) := k_4_A.cell 3
  have c_4_A_4 : w_4.cell? ⟨b_A, 4, none⟩ = some (.int .i64 a3) := k_4_A.cell 4
  have c_4_A_5 : w_4.cell? ⟨b_A, 5, none⟩ = some (.int .i64 a4) := k_4_A.cell 5
  have c_4_A_6 : w_4.cell? ⟨b_A, 6, none⟩ = some (.slice B m d) := k_4_A.cell 6
  have c_4_A_7 : w_4.cell? ⟨b_A, 7, none⟩ = some (.int .i64 a5) := k_4_A.cell 7
  have c_4_A_8 : w_4.cell? ⟨b_A, 8, none⟩ = some (.int .i64 a6) := k_4_A.cell 8
  have c_4_A_9 : w_4.cell? ⟨b_A, 9, none⟩ = some (.int .i64 a7) := k_4_A.cell 9
  have c_4_A_10 : w_4.cell? ⟨b_A, 10, none⟩ = some (.int .i64 a8) := k_4_A.cell 10
  have c_4_A_11 : w_4.cell? ⟨b_A, 11, none⟩ = some (.int .i64 a9) := k_4_A.cell 11
  have c_4_A_12 : w_4.cell? ⟨b_A, 12, none⟩ = some (.int .i64 a10) := k_4_A.cell 12
  have c_4_A_13 : w_4.cell? ⟨b_A, 13, none⟩ = some (.int .i64 a11) := k_4_A.cell 13
  have l_4_A := k_4_A.lt
  have k_4_B : Blk w_4 b_B 76 #[.slice A2 n c2, .int .i64 a0, .int .i64 a1, .int .i64 a2, .int .i64 a3, .int .i64 a4, .slice B2 m d2, .int .i64 a5, .int .i64 a6, .int .i64 a7, .int .i64 a8, .int .i64 a9, .int .i64 a10, .int .i64 a11] := Blk.step (by (with_reducible (repeat (first | assumption | exact Blk.new' (by simp) | apply Blk.drewN | apply Blk.drew | apply Blk.alloc | (refine Blk.far ?_ (by (try simp) <;> omega) _))))) hb_4
  have c_4_B_0 : w_4.cell? ⟨b_B, 0, none⟩ = some (.slice A2 n c2) := k_4_B.cell 0
  have c_4_B_1 : w_4.cell? ⟨b_B, 1, none⟩ = some (.int .i64 a0) := k_4_B.cell 1
  have c_4_B_2 : w_4.cell? ⟨b_B, 2, none⟩ = some (.int .i64 a1) := k_4_B.cell 2
  have c_4_B_3 : w_4.cell? ⟨b_B, 3, none⟩ = some (.int .i64 a2) := k_4_B.cell 3
  have c_4_B_4 : w_4.cell? ⟨b_B, 4, none⟩ = some (.int .i64 a3) := k_4_B.cell 4
  have c_4_B_5 : w_4.cell? ⟨b_B, 5, none⟩ = some (.int .i64 a4) := k_4_B.cell 5
  have c_4_B_6 : w_4.cell? ⟨b_B, 6, none⟩ = some (.slice B2 m d2) := k_4_B.cell 6
  have c_4_B_7 : w_4.cell? ⟨b_B, 7, none⟩ = some (.int .i64 a5) := k_4_B.cell 7
  have c_4_B_8 : w_4.cell? ⟨b_B, 8, none⟩ = some (.int .i64 a6) := k_4_B.cell 8
  have c_4_B_9 : w_4.cell? ⟨b_B, 9, none⟩ = some (.int .i64 a7) := k_4_B.cell 9
  have c_4_B_10 : w_4.cell? ⟨b_B, 10, none⟩ = some (.int .i64 a8) := k_4_B.cell 10
  have c_4_B_11 : w_4.cell? ⟨b_B, 11, none⟩ = some (.int .i64 a9) := k_4_B.cell 11
  have c_4_B_12 : w_4.cell? ⟨b_B, 12, none⟩ = some (.int .i64 a10) := k_4_B.cell 12
  have c_4_B_13 : w_4.cell? ⟨b_B, 13, none⟩ = some (.int .i64 a11) := k_4_B.cell 13
  have l_4_B := k_4_B.lt
  clear i_3 k_3_A c_3_A_0 c_3_A_1 c_3_A_2 c_3_A_3 c_3_A_4 c_3_A_5 c_3_A_6 c_3_A_7 c_3_A_8 c_3_A_9 c_3_A_10 c_3_A_11 c_3_A_12 c_3_A_13 l_3_A k_3_B c_3_B_0 c_3_B_1 c_3_B_2 c_3_B_3 c_3_B_4 c_3_B_5 c_3_B_6 c_3_B_7 c_3_B_8 c_3_B_9 c_3_B_10 c_3_B_11 c_3_B_12 c_3_B_13 l_3_B hb_3
  go_wp2
  go_ret
  exact Val.mk' (rfl) (by (repeat (first | exact In.refl _ | assumption | apply In.alloc | apply In.drewN | apply In.drew | (refine In.step ?_ (by assumption)))))
end Go.Proofs.Ytmlemplkbkgjfaa
