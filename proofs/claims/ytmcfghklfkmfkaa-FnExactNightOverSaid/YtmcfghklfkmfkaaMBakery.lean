import Derived.Test.YtmcfghklfkmfkaaWBakery
/- Bakery: size and comparison. -/
namespace Go.Proofs.Ytmcfghklfkmfkaa
open Go.ChangeShapes Go.WideShapes Go.ChangeAt Go.RowKit
set_option linter.unusedVariables false
set_option linter.unusedSimpArgs false
set_option maxHeartbeats 2000000

theorem szBakery_w (A : Option Addr) (n c : Nat) (B : Option Addr) (m d : Nat) (a0 a1 a2 a3 a4 a5 a6 a7 a8 a9 a10 a11 : Int) (left : Int) (w : World) (hn : n ≤ maxLen) (hm : m ≤ maxLen) (h1 : 0 ≤ left) (h2 : left ≤ 2000000) : Calls Try.prog 8 #[.agg #[.slice A n c, .int .i64 a0, .int .i64 a1, .int .i64 a2, .int .i64 a3, .int .i64 a4, .slice B m d, .int .i64 a5, .int .i64 a6, .int .i64 a7, .int .i64 a8, .int .i64 a9, .int .i64 a10, .int .i64 a11], .int .i64 left] w (Val (.int .i64 (if left < (n : Int) + (m : Int) then -1 else left - n - m)) w) := by
  have HS := Lib.hid (fun W => szStock_c A n c left W hn h1 h2)
  by_cases h : left < n
  · rw [if_pos h] at HS
    have HV : Hid ((if left < (n : Int) + (m : Int) then -1 else left - n - m) = -1) := Lib.hid (if_pos (by omega))
    go_enter Try.func8, Try.ntmps8
    go_wp2_with fail
    refine (HS.out _).mono ?_
    rintro _ w_1 ⟨rfl, hb_1⟩
    have i_1 : In w.heap.size w w_1 := In.step (by (repeat (first | exact In.refl _ | assumption | apply In.alloc | apply In.drewN | apply In.drew | (refine In.step ?_ (by assumption))))) hb_1
    go_wp2
    go_ret
    exact Val.mk' (by first | rfl | exact v_int HV.out.symm) (by (repeat (first | exact In.refl _ | assumption | apply In.alloc | apply In.drewN | apply In.drew | (refine In.step ?_ (by assumption)))))
  · rw [if_neg h] at HS
    have hd : decide (left - (n : Int) < 0) = false := by simp; omega
    have HB := Lib.hid (fun W => szBook_w B m d a5 a6 a7 a8 a9 a10 (left - n) W hm (by omega) (by omega))
    by_cases h3 : left - n < m
    · rw [if_pos h3] at HB
      have HV : Hid ((if left < (n : Int) + (m : Int) then -1 else left - n - m) = -1) := Lib.hid (if_pos (by omega))
      have k1 : Blk (w.alloc (.cells #[.slice A n c, .int .i64 a0, .int .i64 a1, .int .i64 a2, .int .i64 a3, .int .i64 a4, .slice B m d, .int .i64 a5, .int .i64 a6, .int .i64 a7, .int .i64 a8, .int .i64 a9, .int .i64 a10, .int .i64 a11] 35)) w.heap.size 35 #[.slice A n c, .int .i64 a0, .int .i64 a1, .int .i64 a2, .int .i64 a3, .int .i64 a4, .slice B m d, .int .i64 a5, .int .i64 a6, .int .i64 a7, .int .i64 a8, .int .i64 a9, .int .i64 a10, .int .i64 a11] := Blk.new w _ _
      go_enter Try.func8, Try.ntmps8
      go_wp2_with fail
      refine (HS.out _).mono ?_
      rintro _ w_1 ⟨rfl, hb_1⟩
      have i_1 : In w.heap.size w w_1 := In.step (by (repeat (first | exact In.refl _ | assumption | apply In.alloc | apply In.drewN | apply In.drew | (refine In.step ?_ (by assumption))))) hb_1
      have k2 := Blk.step k1 hb_1
      have c6 := k2.cell 6
      have c7 := k2.cell 7
      have c8 := k2.cell 8
      have c9 := k2.cell 9
      have c10 := k2.cell 10
      have c11 := k2.cell 11
      have c12 := k2.cell 12
      go_wp2_with fail
      refine (HB.out _).mono ?_
      rintro _ w_2 ⟨rfl, hb_2⟩
      have i_2 : In w.heap.size w w_2 := In.step (by (repeat (first | exact In.refl _ | assumption | apply In.alloc | apply In.drewN | apply In.drew | (refine In.step ?_ (by assumption))))) hb_2
      go_wp2
      go_ret
      exact Val.mk' (by first | rfl | exact v_int HV.out.symm) (by (repeat (first | exact In.refl _ | assumption | apply In.alloc | apply In.drewN | apply In.drew | (refine In.step ?_ (by assumption)))))
    · rw [if_neg h3] at HB
      have HV : Hid ((if left < (n : Int) + (m : Int) then -1 else left - n - m) = left - n - m) := Lib.hid (if_neg (by omega))
      have k1 : Blk (w.alloc (.cells #[.slice A n c, .int .i64 a0, .int .i64 a1, .int .i64 a2, .int .i64 a3, .int .i64 a4, .slice B m d, .int .i64 a5, .int .i64 a6, .int .i64 a7, .int .i64 a8, .int .i64 a9, .int .i64 a10, .int .i64 a11] 35)) w.heap.size 35 #[.slice A n c, .int .i64 a0, .int .i64 a1, .int .i64 a2, .int .i64 a3, .int .i64 a4, .slice B m d, .int .i64 a5, .int .i64 a6, .int .i64 a7, .int .i64 a8, .int .i64 a9, .int .i64 a10, .int .i64 a11] := Blk.new w _ _
      have hd2 : decide (left - (n : Int) - (m : Int) < 0) = false := by simp; omega
      go_enter Try.func8, Try.ntmps8
      go_wp2_with fail
      refine (HS.out _).mono ?_
      rintro _ w_1 ⟨rfl, hb_1⟩
      have i_1 : In w.heap.size w w_1 := In.step (by (repeat (first | exact In.refl _ | assumption | apply In.alloc | apply In.drewN | apply In.drew | (refine In.step ?_ (by assumption))))) hb_1
      have k2 := Blk.step k1 hb_1
      have c6 := k2.cell 6
      have c7 := k2.cell 7
      have c8 := k2.cell 8
      have c9 := k2.cell 9
      have c10 := k2.cell 10
      have c11 := k2.cell 11
      have c12 := k2.cell 12
      go_wp2_with fail
      refine (HB.out _).mono ?_
      rintro _ w_2 ⟨rfl, hb_2⟩
      have i_2 : In w.heap.size w w_2 := In.step (by (repeat (first | exact In.refl _ | assumption | apply In.alloc | apply In.drewN | apply In.drew | (refine In.step ?_ (by assumption))))) hb_2
      go_wp2
      go_ret
      exact Val.mk' (by first | rfl | exact v_int HV.out.symm) (by (repeat (first | exact In.refl _ | assumption | apply In.alloc | apply In.drewN | apply In.drew | (refine In.step ?_ (by assumption)))))
theorem eqBakery_w (A A2 : Option Addr) (n c c2 : Nat) (xs : List Int) (B B2 : Option Addr) (m d d2 : Nat) (ys : List EventR) (a0 a1 a2 a3 a4 a5 a6 a7 a8 a9 a10 a11 : Int) (w : World) (hn : n ≤ maxLen) (hm : m ≤ maxLen) (hx : ReadsI w A n xs) (hx2 : ReadsI w A2 n xs) (hy : ReadsEvent w B m ys) (hy2 : ReadsEvent w B2 m ys) : Calls Try.prog 12 #[.agg #[.slice A n c, .int .i64 a0, .int .i64 a1, .int .i64 a2, .int .i64 a3, .int .i64 a4, .slice B m d, .int .i64 a5, .int .i64 a6, .int .i64 a7, .int .i64 a8, .int .i64 a9, .int .i64 a10, .int .i64 a11], .agg #[.slice A2 n c2, .int .i64 a0, .int .i64 a1, .int .i64 a2, .int .i64 a3, .int .i64 a4, .slice B2 m d2, .int .i64 a5, .int .i64 a6, .int .i64 a7, .int .i64 a8, .int .i64 a9, .int .i64 a10, .int .i64 a11]] w (Val (.bool true) w) := by
  have HX := Lib.hid hx
  have HX2 := Lib.hid hx2
  have HY := Lib.hid hy
  have HY2 := Lib.hid hy2
  clear hx hx2 hy hy2
  obtain ⟨b_A, hbx_A⟩ : ∃ b, b = w.heap.size := ⟨_, rfl⟩
  have kk_A : Blk ((w.alloc (.cells #[.slice A n c, .int .i64 a0, .int .i64 a1, .int .i64 a2, .int .i64 a3, .int .i64 a4, .slice B m d, .int .i64 a5, .int .i64 a6, .int .i64 a7, .int .i64 a8, .int .i64 a9, .int .i64 a10, .int .i64 a11] 45)).alloc (.cells #[.slice A2 n c2, .int .i64 a0, .int .i64 a1, .int .i64 a2, .int .i64 a3, .int .i64 a4, .slice B2 m d2, .int .i64 a5, .int .i64 a6, .int .i64 a7, .int .i64 a8, .int .i64 a9, .int .i64 a10, .int .i64 a11] 45)) b_A 45 #[.slice A n c, .int .i64 a0, .int .i64 a1, .int .i64 a2, .int .i64 a3, .int .i64 a4, .slice B m d, .int .i64 a5, .int .i64 a6, .int .i64 a7, .int .i64 a8, .int .i64 a9, .int .i64 a10, .int .i64 a11] := ((Blk.new' (w := w) (t := 45) (cs := #[.slice A n c, .int .i64 a0, .int .i64 a1, .int .i64 a2, .int .i64 a3, .int .i64 a4, .slice B m d, .int .i64 a5, .int .i64 a6, .int .i64 a7, .int .i64 a8, .int .i64 a9, .int .i64 a10, .int .i64 a11]) (g := b_A) (by simp [hbx_A])).alloc (.cells #[.slice A2 n c2, .int .i64 a0, .int .i64 a1, .int .i64 a2, .int .i64 a3, .int .i64 a4, .slice B2 m d2, .int .i64 a5, .int .i64 a6, .int .i64 a7, .int .i64 a8, .int .i64 a9, .int .i64 a10, .int .i64 a11] 45))
  have hwb_A : w.heap.size ≤ b_A := by omega
  obtain ⟨b_B, hbx_B⟩ : ∃ b, b = w.heap.size + 1 := ⟨_, rfl⟩
  have kk_B : Blk ((w.alloc (.cells #[.slice A n c, .int .i64 a0, .int .i64 a1, .int .i64 a2, .int .i64 a3, .int .i64 a4, .slice B m d, .int .i64 a5, .int .i64 a6, .int .i64 a7, .int .i64 a8, .int .i64 a9, .int .i64 a10, .int .i64 a11] 45)).alloc (.cells #[.slice A2 n c2, .int .i64 a0, .int .i64 a1, .int .i64 a2, .int .i64 a3, .int .i64 a4, .slice B2 m d2, .int .i64 a5, .int .i64 a6, .int .i64 a7, .int .i64 a8, .int .i64 a9, .int .i64 a10, .int .i64 a11] 45)) b_B 45 #[.slice A2 n c2, .int .i64 a0, .int .i64 a1, .int .i64 a2, .int .i64 a3, .int .i64 a4, .slice B2 m d2, .int .i64 a5, .int .i64 a6, .int .i64 a7, .int .i64 a8, .int .i64 a9, .int .i64 a10, .int .i64 a11] := (Blk.new' (w := (w.alloc (.cells #[.slice A n c, .int .i64 a0, .int .i64 a1, .int .i64 a2, .int .i64 a3, .int .i64 a4, .slice B m d, .int .i64 a5, .int .i64 a6, .int .i64 a7, .int .i64 a8, .int .i64 a9, .int .i64 a10, .int .i64 a11] 45))) (t := 45) (cs := #[.slice A2 n c2, .int .i64 a0, .int .i64 a1, .int .i64 a2, .int .i64 a3, .int .i64 a4, .slice B2 m d2, .int .i64 a5, .int .i64 a6, .int .i64 a7, .int .i64 a8, .int .i64 a9, .int .i64 a10, .int .i64 a11]) (g := b_B) (by simp [hbx_B]))
  have hwb_B : w.heap.size ≤ b_B := by omega
  have NB_A_B : Hid (b_A ≠ b_B) := Lib.hid (by omega)
  have hb_0 : Below w.heap.size w ((w.alloc (.cells #[.slice A n c, .int .i64 a0, .int .i64 a1, .int .i64 a2, .int .i64 a3, .int .i64 a4, .slice B m d, .int .i64 a5, .int .i64 a6, .int .i64 a7, .int .i64 a8, .int .i64 a9, .int .i64 a10, .int .i64 a11] 45)).alloc (.cells #[.slice A2 n c2, .int .i64 a0, .int .i64 a1, .int .i64 a2, .int .i64 a3, .int .i64 a4, .slice B2 m d2, .int .i64 a5, .int .i64 a6, .int .i64 a7, .int .i64 a8, .int .i64 a9, .int .i64 a10, .int .i64 a11] 45)) := by
    have h : In w.heap.size w ((w.alloc (.cells #[.slice A n c, .int .i64 a0, .int .i64 a1, .int .i64 a2, .int .i64 a3, .int .i64 a4, .slice B m d, .int .i64 a5, .int .i64 a6, .int .i64 a7, .int .i64 a8, .int .i64 a9, .int .i64 a10, .int .i64 a11] 45)).alloc (.cells #[.slice A2 n c2, .int .i64 a0, .int .i64 a1, .int .i64 a2, .int .i64 a3, .int .i64 a4, .slice B2 m d2, .int .i64 a5, .int .i64 a6, .int .i64 a7, .int .i64 a8, .int .i64 a9, .int .i64 a10, .int .i64 a11] 45)) := by (repeat (first | exact In.refl _ | assumption | apply In.alloc | apply In.drewN | apply In.drew | (refine In.step ?_ (by assumption))))
    exact h.below
  have hsz_0 : ((w.alloc (.cells #[.slice A n c, .int .i64 a0, .int .i64 a1, .int .i64 a2, .int .i64 a3, .int .i64 a4, .slice B m d, .int .i64 a5, .int .i64 a6, .int .i64 a7, .int .i64 a8, .int .i64 a9, .int .i64 a10, .int .i64 a11] 45)).alloc (.cells #[.slice A2 n c2, .int .i64 a0, .int .i64 a1, .int .i64 a2, .int .i64 a3, .int .i64 a4, .slice B2 m d2, .int .i64 a5, .int .i64 a6, .int .i64 a7, .int .i64 a8, .int .i64 a9, .int .i64 a10, .int .i64 a11] 45)).heap.size = b_B + 1 := by simp [hbx_B]
  go_enter Try.func12, Try.ntmps12
  go_wp2_with fail
  rw [← hbx_B]
  clear hbx_B
  rw [← hbx_A]
  clear hbx_A
  generalize ((w.alloc (.cells #[.slice A n c, .int .i64 a0, .int .i64 a1, .int .i64 a2, .int .i64 a3, .int .i64 a4, .slice B m d, .int .i64 a5, .int .i64 a6, .int .i64 a7, .int .i64 a8, .int .i64 a9, .int .i64 a10, .int .i64 a11] 45)).alloc (.cells #[.slice A2 n c2, .int .i64 a0, .int .i64 a1, .int .i64 a2, .int .i64 a3, .int .i64 a4, .slice B2 m d2, .int .i64 a5, .int .i64 a6, .int .i64 a7, .int .i64 a8, .int .i64 a9, .int .i64 a10, .int .i64 a11] 45)) = w_0 at *
  have i_0 : In w.heap.size w w_0 := In.step (by (repeat (first | exact In.refl _ | assumption | apply In.alloc | apply In.drewN | apply In.drew | (refine In.step ?_ (by assumption))))) hb_0
  have k_0_A : Blk w_0 b_A 45 #[.slice A n c, .int .i64 a0, .int .i64 a1, .int .i64 a2, .int .i64 a3, .int .i64 a4, .slice B m d, .int .i64 a5, .int .i64 a6, .int .i64 a7, .int .i64 a8, .int .i64 a9, .int .i64 a10, .int .i64 a11] := kk_A
  obtain ⟨c_0_A_0, c_0_A_1, c_0_A_2, c_0_A_3, c_0_A_4, c_0_A_5, c_0_A_6, c_0_A_7, c_0_A_8, c_0_A_9, c_0_A_10, c_0_A_11, c_0_A_12, c_0_A_13⟩ := cells14 k_0_A
  have l_0_A := k_0_A.lt
  have k_0_B : Blk w_0 b_B 45 #[.slice A2 n c2, .int .i64 a0, .int .i64 a1, .int .i64 a2, .int .i64 a3, .int .i64 a4, .slice B2 m d2, .int .i64 a5, .int .i64 a6, .int .i64 a7, .int .i64 a8, .int .i64 a9, .int .i64 a10, .int .i64 a11] := kk_B
  obtain ⟨c_0_B_0, c_0_B_1, c_0_B_2, c_0_B_3, c_0_B_4, c_0_B_5, c_0_B_6, c_0_B_7, c_0_B_8, c_0_B_9, c_0_B_10, c_0_B_11, c_0_B_12, c_0_B_13⟩ := cells14 k_0_B
  have l_0_B := k_0_B.lt
  clear kk_A kk_B
  go_wp2_with fail
  refine (eqStock_c A A2 n c c2 xs _ hn (HX.out.in_ (by (repeat (first | exact In.refl _ | assumption | apply In.alloc | apply In.drewN | apply In.drew | (refine In.step ?_ (by assumption)))))) (HX2.out.in_ (by (repeat (first | exact In.refl _ | assumption | apply In.alloc | apply In.drewN | apply In.drew | (refine In.step ?_ (by assumption))))))).mono ?_
  rintro _ w_1 ⟨rfl, hb_1⟩
  have i_1 : In w.heap.size w w_1 := In.step (by (repeat (first | exact In.refl _ | assumption | apply In.alloc | apply In.drewN | apply In.drew | (refine In.step ?_ (by assumption))))) hb_1
  have k_1_A : Blk w_1 b_A 45 #[.slice A n c, .int .i64 a0, .int .i64 a1, .int .i64 a2, .int .i64 a3, .int .i64 a4, .slice B m d, .int .i64 a5, .int .i64 a6, .int .i64 a7, .int .i64 a8, .int .i64 a9, .int .i64 a10, .int .i64 a11] := Blk.step (by (with_reducible (repeat (first | assumption | exact Blk.new' (by simp) | apply Blk.drewN | apply Blk.drew | apply Blk.alloc | (refine Blk.far ?_ (by (try simp) <;> omega) _))))) hb_1
  obtain ⟨c_1_A_0, c_1_A_1, c_1_A_2, c_1_A_3, c_1_A_4, c_1_A_5, c_1_A_6, c_1_A_7, c_1_A_8, c_1_A_9, c_1_A_10, c_1_A_11, c_1_A_12, c_1_A_13⟩ := cells14 k_1_A
  have l_1_A := k_1_A.lt
  have k_1_B : Blk w_1 b_B 45 #[.slice A2 n c2, .int .i64 a0, .int .i64 a1, .int .i64 a2, .int .i64 a3, .int .i64 a4, .slice B2 m d2, .int .i64 a5, .int .i64 a6, .int .i64 a7, .int .i64 a8, .int .i64 a9, .int .i64 a10, .int .i64 a11] := Blk.step (by (with_reducible (repeat (first | assumption | exact Blk.new' (by simp) | apply Blk.drewN | apply Blk.drew | apply Blk.alloc | (refine Blk.far ?_ (by (try simp) <;> omega) _))))) hb_1
  obtain ⟨c_1_B_0, c_1_B_1, c_1_B_2, c_1_B_3, c_1_B_4, c_1_B_5, c_1_B_6, c_1_B_7, c_1_B_8, c_1_B_9, c_1_B_10, c_1_B_11, c_1_B_12, c_1_B_13⟩ := cells14 k_1_B
  have l_1_B := k_1_B.lt
  clear i_0 k_0_A c_0_A_0 c_0_A_1 c_0_A_2 c_0_A_3 c_0_A_4 c_0_A_5 c_0_A_6 c_0_A_7 c_0_A_8 c_0_A_9 c_0_A_10 c_0_A_11 c_0_A_12 c_0_A_13 l_0_A k_0_B c_0_B_0 c_0_B_1 c_0_B_2 c_0_B_3 c_0_B_4 c_0_B_5 c_0_B_6 c_0_B_7 c_0_B_8 c_0_B_9 c_0_B_10 c_0_B_11 c_0_B_12 c_0_B_13 l_0_B hb_0
  go_wp2_with fail
  refine (eqDough_c a0 a1 a2 _).mono ?_
  rintro _ w_2 ⟨rfl, hb_2⟩
  have i_2 : In w.heap.size w w_2 := In.step (by (repeat (first | exact In.refl _ | assumption | apply In.alloc | apply In.drewN | apply In.drew | (refine In.step ?_ (by assumption))))) hb_2
  have k_2_A : Blk w_2 b_A 45 #[.slice A n c, .int .i64 a0, .int .i64 a1, .int .i64 a2, .int .i64 a3, .int .i64 a4, .slice B m d, .int .i64 a5, .int .i64 a6, .int .i64 a7, .int .i64 a8, .int .i64 a9, .int .i64 a10, .int .i64 a11] := Blk.step (by (with_reducible (repeat (first | assumption | exact Blk.new' (by simp) | apply Blk.drewN | apply Blk.drew | apply Blk.alloc | (refine Blk.far ?_ (by (try simp) <;> omega) _))))) hb_2
  obtain ⟨c_2_A_0, c_2_A_1, c_2_A_2, c_2_A_3, c_2_A_4, c_2_A_5, c_2_A_6, c_2_A_7, c_2_A_8, c_2_A_9, c_2_A_10, c_2_A_11, c_2_A_12, c_2_A_13⟩ := cells14 k_2_A
  have l_2_A := k_2_A.lt
  have k_2_B : Blk w_2 b_B 45 #[.slice A2 n c2, .int .i64 a0, .int .i64 a1, .int .i64 a2, .int .i64 a3, .int .i64 a4, .slice B2 m d2, .int .i64 a5, .int .i64 a6, .int .i64 a7, .int .i64 a8, .int .i64 a9, .int .i64 a10, .int .i64 a11] := Blk.step (by (with_reducible (repeat (first | assumption | exact Blk.new' (by simp) | apply Blk.drewN | apply Blk.drew | apply Blk.alloc | (refine Blk.far ?_ (by (try simp) <;> omega) _))))) hb_2
  obtain ⟨c_2_B_0, c_2_B_1, c_2_B_2, c_2_B_3, c_2_B_4, c_2_B_5, c_2_B_6, c_2_B_7, c_2_B_8, c_2_B_9, c_2_B_10, c_2_B_11, c_2_B_12, c_2_B_13⟩ := cells14 k_2_B
  have l_2_B := k_2_B.lt
  clear i_1 k_1_A c_1_A_0 c_1_A_1 c_1_A_2 c_1_A_3 c_1_A_4 c_1_A_5 c_1_A_6 c_1_A_7 c_1_A_8 c_1_A_9 c_1_A_10 c_1_A_11 c_1_A_12 c_1_A_13 l_1_A k_1_B c_1_B_0 c_1_B_1 c_1_B_2 c_1_B_3 c_1_B_4 c_1_B_5 c_1_B_6 c_1_B_7 c_1_B_8 c_1_B_9 c_1_B_10 c_1_B_11 c_1_B_12 c_1_B_13 l_1_B hb_1
  go_wp2_with fail
  refine (eqLoaf_c a3 a4 _).mono ?_
  rintro _ w_3 ⟨rfl, hb_3⟩
  have i_3 : In w.heap.size w w_3 := In.step (by (repeat (first | exact In.refl _ | assumption | apply In.alloc | apply In.drewN | apply In.drew | (refine In.step ?_ (by assumption))))) hb_3
  have k_3_A : Blk w_3 b_A 45 #[.slice A n c, .int .i64 a0, .int .i64 a1, .int .i64 a2, .int .i64 a3, .int .i64 a4, .slice B m d, .int .i64 a5, .int .i64 a6, .int .i64 a7, .int .i64 a8, .int .i64 a9, .int .i64 a10, .int .i64 a11] := Blk.step (by (with_reducible (repeat (first | assumption | exact Blk.new' (by simp) | apply Blk.drewN | apply Blk.drew | apply Blk.alloc | (refine Blk.far ?_ (by (try simp) <;> omega) _))))) hb_3
  obtain ⟨c_3_A_0, c_3_A_1, c_3_A_2, c_3_A_3, c_3_A_4, c_3_A_5, c_3_A_6, c_3_A_7, c_3_A_8, c_3_A_9, c_3_A_10, c_3_A_11, c_3_A_12, c_3_A_13⟩ := cells14 k_3_A
  have l_3_A := k_3_A.lt
  have k_3_B : Blk w_3 b_B 45 #[.slice A2 n c2, .int .i64 a0, .int .i64 a1, .int .i64 a2, .int .i64 a3, .int .i64 a4, .slice B2 m d2, .int .i64 a5, .int .i64 a6, .int .i64 a7, .int .i64 a8, .int .i64 a9, .int .i64 a10, .int .i64 a11] := Blk.step (by (with_reducible (repeat (first | assumption | exact Blk.new' (by simp) | apply Blk.drewN | apply Blk.drew | apply Blk.alloc | (refine Blk.far ?_ (by (try simp) <;> omega) _))))) hb_3
  obtain ⟨c_3_B_0, c_3_B_1, c_3_B_2, c_3_B_3, c_3_B_4, c_3_B_5, c_3_B_6, c_3_B_7, c_3_B_8, c_3_B_9, c_3_B_10, c_3_B_11, c_3_B_12, c_3_B_13⟩ := cells14 k_3_B
  have l_3_B := k_3_B.lt
  clear i_2 k_2_A c_2_A_0 c_2_A_1 c_2_A_2 c_2_A_3 c_2_A_4 c_2_A_5 c_2_A_6 c_2_A_7 c_2_A_8 c_2_A_9 c_2_A_10 c_2_A_11 c_2_A_12 c_2_A_13 l_2_A k_2_B c_2_B_0 c_2_B_1 c_2_B_2 c_2_B_3 c_2_B_4 c_2_B_5 c_2_B_6 c_2_B_7 c_2_B_8 c_2_B_9 c_2_B_10 c_2_B_11 c_2_B_12 c_2_B_13 l_2_B hb_2
  go_wp2_with fail
  refine (eqBook_w B B2 m d d2 ys a5 a6 a7 a8 a9 a10 _ hm (HY.out.in_ (by (repeat (first | exact In.refl _ | assumption | apply In.alloc | apply In.drewN | apply In.drew | (refine In.step ?_ (by assumption)))))) (HY2.out.in_ (by (repeat (first | exact In.refl _ | assumption | apply In.alloc | apply In.drewN | apply In.drew | (refine In.step ?_ (by assumption))))))).mono ?_
  rintro _ w_4 ⟨rfl, hb_4⟩
  have i_4 : In w.heap.size w w_4 := In.step (by (repeat (first | exact In.refl _ | assumption | apply In.alloc | apply In.drewN | apply In.drew | (refine In.step ?_ (by assumption))))) hb_4
  have k_4_A : Blk w_4 b_A 45 #[.slice A n c, .int .i64 a0, .int .i64 a1, .int .i64 a2, .int .i64 a3, .int .i64 a4, .slice B m d, .int .i64 a5, .int .i64 a6, .int .i64 a7, .int .i64 a8, .int .i64 a9, .int .i64 a10, .int .i64 a11] := Blk.step (by (with_reducible (repeat (first | assumption | exact Blk.new' (by simp) | apply Blk.drewN | apply Blk.drew | apply Blk.alloc | (refine Blk.far ?_ (by (try simp) <;> omega) _))))) hb_4
  obtain ⟨c_4_A_0, c_4_A_1, c_4_A_2, c_4_A_3, c_4_A_4, c_4_A_5, c_4_A_6, c_4_A_7, c_4_A_8, c_4_A_9, c_4_A_10, c_4_A_11, c_4_A_12, c_4_A_13⟩ := cells14 k_4_A
  have l_4_A := k_4_A.lt
  have k_4_B : Blk w_4 b_B 45 #[.slice A2 n c2, .int .i64 a0, .int .i64 a1, .int .i64 a2, .int .i64 a3, .int .i64 a4, .slice B2 m d2, .int .i64 a5, .int .i64 a6, .int .i64 a7, .int .i64 a8, .int .i64 a9, .int .i64 a10, .int .i64 a11] := Blk.step (by (with_reducible (repeat (first | assumption | exact Blk.new' (by simp) | apply Blk.drewN | apply Blk.drew | apply Blk.alloc | (refine Blk.far ?_ (by (try simp) <;> omega) _))))) hb_4
  obtain ⟨c_4_B_0, c_4_B_1, c_4_B_2, c_4_B_3, c_4_B_4, c_4_B_5, c_4_B_6, c_4_B_7, c_4_B_8, c_4_B_9, c_4_B_10, c_4_B_11, c_4_B_12, c_4_B_13⟩ := cells14 k_4_B
  have l_4_B := k_4_B.lt
  clear i_3 k_3_A c_3_A_0 c_3_A_1 c_3_A_2 c_3_A_3 c_3_A_4 c_3_A_5 c_3_A_6 c_3_A_7 c_3_A_8 c_3_A_9 c_3_A_10 c_3_A_11 c_3_A_12 c_3_A_13 l_3_A k_3_B c_3_B_0 c_3_B_1 c_3_B_2 c_3_B_3 c_3_B_4 c_3_B_5 c_3_B_6 c_3_B_7 c_3_B_8 c_3_B_9 c_3_B_10 c_3_B_11 c_3_B_12 c_3_B_13 l_3_B hb_3
  go_wp2
  go_ret
  exact Val.mk' (rfl) (by (repeat (first | exact In.refl _ | assumption | apply In.alloc | apply In.drewN | apply In.drew | (refine In.step ?_ (by assumption)))))
end Go.Proofs.Ytmcfghklfkmfkaa
/- Bakery: marking and holding. -/
namespace Go.Proofs.Ytmcfghklfkmfkaa
open Go.ChangeShapes Go.WideShapes Go.ChangeAt Go.RowKit
set_option linter.unusedVariables false
set_option linter.unusedSimpArgs false
set_option maxHeartbeats 2000000

set_option maxHeartbeats 4000000 in
theorem markBakery_w (g n c : Nat) (xs : List Int) (h m d : Nat) (ys : List EventR) (a0 a1 a2 a3 a4 a5 a6 a7 a8 a9 a10 a11 : Int) (k : Nat) (w : World) (hn : (n : Int) ≤ 1048576) (hm : (m : Int) ≤ 1048576) (hk : (k : Int) ≤ 1000000) (ho : OwnC w g n c xs) (hp : OCEvent w h m d ys) :
    Calls Try.prog 13 #[.agg #[.slice (some ⟨g, 0, none⟩) n c, .int .i64 a0, .int .i64 a1, .int .i64 a2, .int .i64 a3, .int .i64 a4, .slice (some ⟨h, 0, none⟩) m d, .int .i64 a5, .int .i64 a6, .int .i64 a7, .int .i64 a8, .int .i64 a9, .int .i64 a10, .int .i64 a11], .int .i64 (k : Int)] w (fun e w' => e = .returned (.int .i64 ((k + n + 2 * m : Nat) : Int)) ∧ ∃ v, OwnC v g n c (marksI k n) ∧ w.grownBy v (some g) ∧ OCEvent w' h m d (marksEvent (k + n) m) ∧ v.grownBy w' (some h)) := by
  have hne := ne_OwnC_OCEvent ho hp
  have k0 : Blk (w.alloc (.cells #[.slice (some ⟨g, 0, none⟩) n c, .int .i64 a0, .int .i64 a1, .int .i64 a2, .int .i64 a3, .int .i64 a4, .slice (some ⟨h, 0, none⟩) m d, .int .i64 a5, .int .i64 a6, .int .i64 a7, .int .i64 a8, .int .i64 a9, .int .i64 a10, .int .i64 a11] 45)) w.heap.size 45 #[.slice (some ⟨g, 0, none⟩) n c, .int .i64 a0, .int .i64 a1, .int .i64 a2, .int .i64 a3, .int .i64 a4, .slice (some ⟨h, 0, none⟩) m d, .int .i64 a5, .int .i64 a6, .int .i64 a7, .int .i64 a8, .int .i64 a9, .int .i64 a10, .int .i64 a11] := Blk.new w _ _
  have o0 := ho.alloc (.cells #[.slice (some ⟨g, 0, none⟩) n c, .int .i64 a0, .int .i64 a1, .int .i64 a2, .int .i64 a3, .int .i64 a4, .slice (some ⟨h, 0, none⟩) m d, .int .i64 a5, .int .i64 a6, .int .i64 a7, .int .i64 a8, .int .i64 a9, .int .i64 a10, .int .i64 a11] 45)
  have p0 := hp.alloc (.cells #[.slice (some ⟨g, 0, none⟩) n c, .int .i64 a0, .int .i64 a1, .int .i64 a2, .int .i64 a3, .int .i64 a4, .slice (some ⟨h, 0, none⟩) m d, .int .i64 a5, .int .i64 a6, .int .i64 a7, .int .i64 a8, .int .i64 a9, .int .i64 a10, .int .i64 a11] 45)
  have hg0 : w.grownBy (w.alloc (.cells #[.slice (some ⟨g, 0, none⟩) n c, .int .i64 a0, .int .i64 a1, .int .i64 a2, .int .i64 a3, .int .i64 a4, .slice (some ⟨h, 0, none⟩) m d, .int .i64 a5, .int .i64 a6, .int .i64 a7, .int .i64 a8, .int .i64 a9, .int .i64 a10, .int .i64 a11] 45)) (some g) := only_alloc (only_refl _ _) _
  have HN := Lib.hid hne
  have hgl := ho.lt
  have hd1 : decide (((k + n : Nat) : Int) < 0) = false := by simp; omega
  clear ho hp hne
  go_enter Try.func13, Try.ntmps13
  go_wp2_with fail
  refine (markStock_c g n c k xs _ (by omega) (by omega) o0).mono ?_
  rintro _ w1 ⟨rfl, o1, g1⟩
  have k1 := Blk.grown k0 g1 (fun h9 => absurd (Option.some.inj h9) (by omega))
  have p1 := OCEvent.only p0 g1 (fun h9 => HN.out h9.symm)
  have G1 := Lib.hid (only_trans hg0 g1)
  have O1 := Lib.hid o1
  have c6 := k1.cell 6
  simp only [List.getElem?_toArray, List.getElem?_cons_zero, List.getElem?_cons_succ] at c6
  have c7 := k1.cell 7
  simp only [List.getElem?_toArray, List.getElem?_cons_zero, List.getElem?_cons_succ] at c7
  have c8 := k1.cell 8
  simp only [List.getElem?_toArray, List.getElem?_cons_zero, List.getElem?_cons_succ] at c8
  have c9 := k1.cell 9
  simp only [List.getElem?_toArray, List.getElem?_cons_zero, List.getElem?_cons_succ] at c9
  have c10 := k1.cell 10
  simp only [List.getElem?_toArray, List.getElem?_cons_zero, List.getElem?_cons_succ] at c10
  have c11 := k1.cell 11
  simp only [List.getElem?_toArray, List.getElem?_cons_zero, List.getElem?_cons_succ] at c11
  have c12 := k1.cell 12
  simp only [List.getElem?_toArray, List.getElem?_cons_zero, List.getElem?_cons_succ] at c12
  clear k0 o0 p0 hg0 o1 g1
  go_wp2_with fail
  refine (markBook_w h m d ys a5 a6 a7 a8 a9 a10 (k + n) _ hm (by omega) p1).mono ?_
  rintro _ w2 ⟨rfl, p2, g2⟩
  have P2 := Lib.hid p2
  have G2 := Lib.hid g2
  clear p2 g2 p1 k1
  go_wp2
  go_ret
  exact ⟨ret_int rfl, w1, O1.out, G1.out, P2.out, G2.out⟩
theorem heldBakery_w (A : Option Addr) (n c : Nat) (B : Option Addr) (m d : Nat) (a0 a1 a2 a3 a4 a5 a6 a7 a8 a9 a10 a11 : Int) (k : Nat) (w : World) (hn : (n : Int) ≤ 1048576) (hm : (m : Int) ≤ 1048576) (hk : (k : Int) ≤ 1000000) (hx : ReadsI w A n (marksI k n)) (hy : ReadsEvent w B m (marksEvent (k + n) m)) :
    Calls Try.prog 14 #[.agg #[.slice A n c, .int .i64 a0, .int .i64 a1, .int .i64 a2, .int .i64 a3, .int .i64 a4, .slice B m d, .int .i64 a5, .int .i64 a6, .int .i64 a7, .int .i64 a8, .int .i64 a9, .int .i64 a10, .int .i64 a11], .int .i64 (k : Int)] w (Val (.int .i64 ((k + n + 2 * m : Nat) : Int)) w) := by
  have HX := Lib.hid hx
  have HY := Lib.hid hy
  clear hx hy
  have k0 : Blk (w.alloc (.cells #[.slice A n c, .int .i64 a0, .int .i64 a1, .int .i64 a2, .int .i64 a3, .int .i64 a4, .slice B m d, .int .i64 a5, .int .i64 a6, .int .i64 a7, .int .i64 a8, .int .i64 a9, .int .i64 a10, .int .i64 a11] 45)) w.heap.size 45 #[.slice A n c, .int .i64 a0, .int .i64 a1, .int .i64 a2, .int .i64 a3, .int .i64 a4, .slice B m d, .int .i64 a5, .int .i64 a6, .int .i64 a7, .int .i64 a8, .int .i64 a9, .int .i64 a10, .int .i64 a11] := Blk.new w _ _
  have hd1 : decide (((k + n : Nat) : Int) < 0) = false := by simp; omega
  have hd2 : decide (((k + n + 2 * m : Nat) : Int) < 0) = false := by simp; omega
  have hd3 : decide ((k : Int) + (n : Int) < 0) = false := by simp; omega
  have hd4 : decide ((k : Int) + (n : Int) + 2 * (m : Int) < 0) = false := by simp; omega
  go_enter Try.func14, Try.ntmps14
  go_wp2_with fail
  refine (heldStock_c A n c k _ (by omega) (by omega) (HX.out.in_ (by (repeat (first | exact In.refl _ | assumption | apply In.alloc | apply In.drewN | apply In.drew | (refine In.step ?_ (by assumption))))))).mono ?_
  rintro _ w_1 ⟨rfl, hb_1⟩
  have i_1 : In w.heap.size w w_1 := In.step (by (repeat (first | exact In.refl _ | assumption | apply In.alloc | apply In.drewN | apply In.drew | (refine In.step ?_ (by assumption))))) hb_1
  have k1 := Blk.step k0 hb_1
  have c6 := k1.cell 6
  simp only [List.getElem?_toArray, List.getElem?_cons_zero, List.getElem?_cons_succ] at c6
  have c7 := k1.cell 7
  simp only [List.getElem?_toArray, List.getElem?_cons_zero, List.getElem?_cons_succ] at c7
  have c8 := k1.cell 8
  simp only [List.getElem?_toArray, List.getElem?_cons_zero, List.getElem?_cons_succ] at c8
  have c9 := k1.cell 9
  simp only [List.getElem?_toArray, List.getElem?_cons_zero, List.getElem?_cons_succ] at c9
  have c10 := k1.cell 10
  simp only [List.getElem?_toArray, List.getElem?_cons_zero, List.getElem?_cons_succ] at c10
  have c11 := k1.cell 11
  simp only [List.getElem?_toArray, List.getElem?_cons_zero, List.getElem?_cons_succ] at c11
  have c12 := k1.cell 12
  simp only [List.getElem?_toArray, List.getElem?_cons_zero, List.getElem?_cons_succ] at c12
  clear k0 hb_1
  go_wp2_with fail
  refine (heldBook_w B m d a5 a6 a7 a8 a9 a10 (k + n) _ hm (by omega) (HY.out.in_ i_1)).mono ?_
  rintro _ w_2 ⟨rfl, hb_2⟩
  have i_2 : In w.heap.size w w_2 := In.step i_1 hb_2
  clear hb_2 k1
  go_wp2
  go_ret
  exact Val.mk' rfl i_2
end Go.Proofs.Ytmcfghklfkmfkaa
