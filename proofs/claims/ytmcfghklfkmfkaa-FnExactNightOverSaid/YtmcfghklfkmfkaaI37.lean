/- Chapter 37: BookOk, DaysIn, copies. -/
import Derived.Test.YtmcfghklfkmfkaaH37
namespace Go.Proofs.Ytmcfghklfkmfkaa
open Go.ChangeShapes Go.WideShapes Go.ChangeAt Go.RowKit
set_option linter.unusedVariables false
set_option linter.unusedSimpArgs false
set_option maxHeartbeats 2000000

theorem sBookOk (ga n ca : Nat) (xs : List EventR) (a b c d e f : Int) (w : World) (hn : (n : Int) ≤ 1048577) (hx : ReadsEvent w (some ⟨ga, 0, none⟩) n xs) : Calls Try.prog 82 #[.agg #[.slice (some ⟨ga, 0, none⟩) n ca, .int .i64 a, .int .i64 b, .int .i64 c, .int .i64 d, .int .i64 e, .int .i64 f]] w (Val (.bool (bkB n xs a b c d e f)) w) := by
  have HX := Lib.hid hx
  clear hx
  obtain ⟨b_A, hbx_A⟩ : ∃ b, b = w.heap.size := ⟨_, rfl⟩
  have kk_A : Blk (w.alloc (.cells #[.slice (some ⟨ga, 0, none⟩) n ca, .int .i64 a, .int .i64 b, .int .i64 c, .int .i64 d, .int .i64 e, .int .i64 f] 43)) b_A 43 #[.slice (some ⟨ga, 0, none⟩) n ca, .int .i64 a, .int .i64 b, .int .i64 c, .int .i64 d, .int .i64 e, .int .i64 f] := (Blk.new' (w := w) (t := 43) (cs := #[.slice (some ⟨ga, 0, none⟩) n ca, .int .i64 a, .int .i64 b, .int .i64 c, .int .i64 d, .int .i64 e, .int .i64 f]) (g := b_A) (by simp [hbx_A]))
  have hwb_A : w.heap.size ≤ b_A := by omega
  have hb_0 : Below w.heap.size w (w.alloc (.cells #[.slice (some ⟨ga, 0, none⟩) n ca, .int .i64 a, .int .i64 b, .int .i64 c, .int .i64 d, .int .i64 e, .int .i64 f] 43)) := by
    have h : In w.heap.size w (w.alloc (.cells #[.slice (some ⟨ga, 0, none⟩) n ca, .int .i64 a, .int .i64 b, .int .i64 c, .int .i64 d, .int .i64 e, .int .i64 f] 43)) := by (repeat (first | exact In.refl _ | assumption | apply In.alloc | apply In.drewN | apply In.drew | (refine In.step ?_ (by assumption))))
    exact h.below
  have hsz_0 : (w.alloc (.cells #[.slice (some ⟨ga, 0, none⟩) n ca, .int .i64 a, .int .i64 b, .int .i64 c, .int .i64 d, .int .i64 e, .int .i64 f] 43)).heap.size = b_A + 1 := by simp [hbx_A]
  go_enter Try.func82, Try.ntmps82
  go_wp2_with fail
  rw [← hbx_A]
  clear hbx_A
  generalize (w.alloc (.cells #[.slice (some ⟨ga, 0, none⟩) n ca, .int .i64 a, .int .i64 b, .int .i64 c, .int .i64 d, .int .i64 e, .int .i64 f] 43)) = w_0 at *
  have i_0 : In w.heap.size w w_0 := In.step (by (repeat (first | exact In.refl _ | assumption | apply In.alloc | apply In.drewN | apply In.drew | (refine In.step ?_ (by assumption))))) hb_0
  have k_0_A : Blk w_0 b_A 43 #[.slice (some ⟨ga, 0, none⟩) n ca, .int .i64 a, .int .i64 b, .int .i64 c, .int .i64 d, .int .i64 e, .int .i64 f] := kk_A
  have c_0_A_0 : w_0.cell? ⟨b_A, 0, none⟩ = some (.slice (some ⟨ga, 0, none⟩) n ca) := k_0_A.cell 0
  have c_0_A_1 : w_0.cell? ⟨b_A, 1, none⟩ = some (.int .i64 a) := k_0_A.cell 1
  have c_0_A_2 : w_0.cell? ⟨b_A, 2, none⟩ = some (.int .i64 b) := k_0_A.cell 2
  have c_0_A_3 : w_0.cell? ⟨b_A, 3, none⟩ = some (.int .i64 c) := k_0_A.cell 3
  have c_0_A_4 : w_0.cell? ⟨b_A, 4, none⟩ = some (.int .i64 d) := k_0_A.cell 4
  have c_0_A_5 : w_0.cell? ⟨b_A, 5, none⟩ = some (.int .i64 e) := k_0_A.cell 5
  have c_0_A_6 : w_0.cell? ⟨b_A, 6, none⟩ = some (.int .i64 f) := k_0_A.cell 6
  have l_0_A := k_0_A.lt
  clear kk_A
  go_wp2_with fail
  refine (s37Count ga n ca xs _ (by omega) (HX.out.in_ (by (repeat (first | exact In.refl _ | assumption | apply In.alloc | apply In.drewN | apply In.drew | (refine In.step ?_ (by assumption))))))).mono ?_
  rintro _ w_1 ⟨gE, cE, s, rfl, hst, hoE, hgE, hb_1⟩
  have i_1 : In w.heap.size w w_1 := In.step (by (repeat (first | exact In.refl _ | assumption | apply In.alloc | apply In.drewN | apply In.drew | (refine In.step ?_ (by assumption))))) hb_1
  have k_1_A : Blk w_1 b_A 43 #[.slice (some ⟨ga, 0, none⟩) n ca, .int .i64 a, .int .i64 b, .int .i64 c, .int .i64 d, .int .i64 e, .int .i64 f] := Blk.step (by (with_reducible (repeat (first | assumption | exact Blk.new' (by simp) | apply Blk.drewN | apply Blk.drew | apply Blk.alloc | (refine Blk.far ?_ (by (try simp) <;> omega) _))))) hb_1
  have c_1_A_0 : w_1.cell? ⟨b_A, 0, none⟩ = some (.slice (some ⟨ga, 0, none⟩) n ca) := k_1_A.cell 0
  have c_1_A_1 : w_1.cell? ⟨b_A, 1, none⟩ = some (.int .i64 a) := k_1_A.cell 1
  have c_1_A_2 : w_1.cell? ⟨b_A, 2, none⟩ = some (.int .i64 b) := k_1_A.cell 2
  have c_1_A_3 : w_1.cell? ⟨b_A, 3, none⟩ = some (.int .i64 c) := k_1_A.cell 3
  have c_1_A_4 : w_1.cell? ⟨b_A, 4, none⟩ = some (.int .i64 d) := k_1_A.cell 4
  have c_1_A_5 : w_1.cell? ⟨b_A, 5, none⟩ = some (.int .i64 e) := k_1_A.cell 5
  have c_1_A_6 : w_1.cell? ⟨b_A, 6, none⟩ = some (.int .i64 f) := k_1_A.cell 6
  have l_1_A := k_1_A.lt
  clear i_0 k_0_A c_0_A_0 c_0_A_1 c_0_A_2 c_0_A_3 c_0_A_4 c_0_A_5 c_0_A_6 l_0_A hb_0
  have HST := Lib.hid hst
  clear hst hoE hgE
  cases hfl : (decide (n ≤ 40) && cntB xs n)
  · have HV : Hid (bkB n xs a b c d e f = false) := Lib.hid (by unfold bkB; rw [← Bool.and_assoc, hfl]; rfl)
    clear hfl HST
    go_wp2
    go_ret
    exact Val.mk' (v_bool HV.out.symm) (by (repeat (first | exact In.refl _ | assumption | apply In.alloc | apply In.drewN | apply In.drew | (refine In.step ?_ (by assumption)))))
  have hs := HST.out hfl
  subst hs
  obtain ⟨s, hs⟩ : ∃ s, stTo xs n = s := ⟨_, rfl⟩
  rw [hs]
  obtain ⟨s0, s1, s2, s3, s4, s5⟩ := s
  have HB : Hid (bkB n xs a b c d e f = decide (s0 = a ∧ s1 = b ∧ s2 = c ∧ s3 = d ∧ s4 = e ∧ s5 = f)) := Lib.hid (by unfold bkB; rw [← Bool.and_assoc, hfl, hs]; rfl)
  clear hs hfl HST
  simp only []
  iterate 22 go_step
  obtain ⟨b_N, hbx_N⟩ : ∃ b, b = w_1.heap.size := ⟨_, rfl⟩
  rw [← hbx_N]
  have hwb_N : w.heap.size ≤ b_N := by have h := In.size i_1; omega
  have NB_A_N : Hid (b_A ≠ b_N) := Lib.hid (by have h := k_1_A.lt; omega)
  have hb_2 : Below w_1.heap.size w_1 (w_1.alloc (.cells #[.slice (some ⟨gE, 0, none⟩) n cE, .int .i64 s0, .int .i64 s1, .int .i64 s2, .int .i64 s3, .int .i64 s4, .int .i64 s5] 43)) := (Below.refl _ _).alloc (Nat.le_refl _) _
  have kk_2 : Blk (w_1.alloc (.cells #[.slice (some ⟨gE, 0, none⟩) n cE, .int .i64 s0, .int .i64 s1, .int .i64 s2, .int .i64 s3, .int .i64 s4, .int .i64 s5] 43)) b_N 43 #[.slice (some ⟨gE, 0, none⟩) n cE, .int .i64 s0, .int .i64 s1, .int .i64 s2, .int .i64 s3, .int .i64 s4, .int .i64 s5] := Blk.new' hbx_N
  clear hbx_N
  generalize (w_1.alloc (.cells #[.slice (some ⟨gE, 0, none⟩) n cE, .int .i64 s0, .int .i64 s1, .int .i64 s2, .int .i64 s3, .int .i64 s4, .int .i64 s5] 43)) = w_2 at *
  have i_2 : In w.heap.size w w_2 := In.step (by (repeat (first | exact In.refl _ | assumption | apply In.alloc | apply In.drewN | apply In.drew | (refine In.step ?_ (by assumption))))) hb_2
  have k_2_A : Blk w_2 b_A 43 #[.slice (some ⟨ga, 0, none⟩) n ca, .int .i64 a, .int .i64 b, .int .i64 c, .int .i64 d, .int .i64 e, .int .i64 f] := Blk.step (by (with_reducible (repeat (first | assumption | exact Blk.new' (by simp) | apply Blk.drewN | apply Blk.drew | apply Blk.alloc | (refine Blk.far ?_ (by (try simp) <;> omega) _))))) hb_2
  have c_2_A_0 : w_2.cell? ⟨b_A, 0, none⟩ = some (.slice (some ⟨ga, 0, none⟩) n ca) := k_2_A.cell 0
  have c_2_A_1 : w_2.cell? ⟨b_A, 1, none⟩ = some (.int .i64 a) := k_2_A.cell 1
  have c_2_A_2 : w_2.cell? ⟨b_A, 2, none⟩ = some (.int .i64 b) := k_2_A.cell 2
  have c_2_A_3 : w_2.cell? ⟨b_A, 3, none⟩ = some (.int .i64 c) := k_2_A.cell 3
  have c_2_A_4 : w_2.cell? ⟨b_A, 4, none⟩ = some (.int .i64 d) := k_2_A.cell 4
  have c_2_A_5 : w_2.cell? ⟨b_A, 5, none⟩ = some (.int .i64 e) := k_2_A.cell 5
  have c_2_A_6 : w_2.cell? ⟨b_A, 6, none⟩ = some (.int .i64 f) := k_2_A.cell 6
  have l_2_A := k_2_A.lt
  have k_2_N : Blk w_2 b_N 43 #[.slice (some ⟨gE, 0, none⟩) n cE, .int .i64 s0, .int .i64 s1, .int .i64 s2, .int .i64 s3, .int .i64 s4, .int .i64 s5] := kk_2
  have c_2_N_0 : w_2.cell? ⟨b_N, 0, none⟩ = some (.slice (some ⟨gE, 0, none⟩) n cE) := k_2_N.cell 0
  have c_2_N_1 : w_2.cell? ⟨b_N, 1, none⟩ = some (.int .i64 s0) := k_2_N.cell 1
  have c_2_N_2 : w_2.cell? ⟨b_N, 2, none⟩ = some (.int .i64 s1) := k_2_N.cell 2
  have c_2_N_3 : w_2.cell? ⟨b_N, 3, none⟩ = some (.int .i64 s2) := k_2_N.cell 3
  have c_2_N_4 : w_2.cell? ⟨b_N, 4, none⟩ = some (.int .i64 s3) := k_2_N.cell 4
  have c_2_N_5 : w_2.cell? ⟨b_N, 5, none⟩ = some (.int .i64 s4) := k_2_N.cell 5
  have c_2_N_6 : w_2.cell? ⟨b_N, 6, none⟩ = some (.int .i64 s5) := k_2_N.cell 6
  have l_2_N := k_2_N.lt
  clear i_1 k_1_A c_1_A_0 c_1_A_1 c_1_A_2 c_1_A_3 c_1_A_4 c_1_A_5 c_1_A_6 l_1_A hb_1
  clear kk_2
  go_wp2
  all_goals go_ret
  all_goals (refine Val.mk' (v_bool ?_) (by (repeat (first | exact In.refl _ | assumption | apply In.alloc | apply In.drewN | apply In.drew | (refine In.step ?_ (by assumption))))); rw [HB.out]; first | (simp_all; done) | (simp_all; rfl))
theorem iBookOk (ga n ca : Nat) (xs : List EventR) (a b c d e f : Int) (w : World) (hn : (n : Int) ≤ 1048577) (hx : ReadsEvent w (some ⟨ga, 0, none⟩) n xs) : Calls Try.prog 70 #[.agg #[.slice (some ⟨ga, 0, none⟩) n ca, .int .i64 a, .int .i64 b, .int .i64 c, .int .i64 d, .int .i64 e, .int .i64 f]] w (Val (.bool (bkB n xs a b c d e f)) w) := by
  have HX := Lib.hid hx
  clear hx
  by_cases h40 : (40 : Int) < (n : Int)
  · have HV : Hid (bkB n xs a b c d e f = false) := Lib.hid (by simp [bkB]; omega)
    go_enter Try.func70, Try.ntmps70
    go_wp2
    go_ret
    exact Val.mk' (v_bool HV.out.symm) (by (repeat (first | exact In.refl _ | assumption | apply In.alloc | apply In.drewN | apply In.drew | (refine In.step ?_ (by assumption)))))
  obtain ⟨b_A, hbx_A⟩ : ∃ b, b = w.heap.size := ⟨_, rfl⟩
  have kk_A : Blk (w.alloc (.cells #[.slice (some ⟨ga, 0, none⟩) n ca, .int .i64 a, .int .i64 b, .int .i64 c, .int .i64 d, .int .i64 e, .int .i64 f] 43)) b_A 43 #[.slice (some ⟨ga, 0, none⟩) n ca, .int .i64 a, .int .i64 b, .int .i64 c, .int .i64 d, .int .i64 e, .int .i64 f] := (Blk.new' (w := w) (t := 43) (cs := #[.slice (some ⟨ga, 0, none⟩) n ca, .int .i64 a, .int .i64 b, .int .i64 c, .int .i64 d, .int .i64 e, .int .i64 f]) (g := b_A) (by simp [hbx_A]))
  have hwb_A : w.heap.size ≤ b_A := by omega
  have hb_0 : Below w.heap.size w (w.alloc (.cells #[.slice (some ⟨ga, 0, none⟩) n ca, .int .i64 a, .int .i64 b, .int .i64 c, .int .i64 d, .int .i64 e, .int .i64 f] 43)) := by
    have h : In w.heap.size w (w.alloc (.cells #[.slice (some ⟨ga, 0, none⟩) n ca, .int .i64 a, .int .i64 b, .int .i64 c, .int .i64 d, .int .i64 e, .int .i64 f] 43)) := by (repeat (first | exact In.refl _ | assumption | apply In.alloc | apply In.drewN | apply In.drew | (refine In.step ?_ (by assumption))))
    exact h.below
  have hsz_0 : (w.alloc (.cells #[.slice (some ⟨ga, 0, none⟩) n ca, .int .i64 a, .int .i64 b, .int .i64 c, .int .i64 d, .int .i64 e, .int .i64 f] 43)).heap.size = b_A + 1 := by simp [hbx_A]
  go_enter Try.func70, Try.ntmps70
  go_wp2_with fail
  rw [← hbx_A]
  clear hbx_A
  generalize (w.alloc (.cells #[.slice (some ⟨ga, 0, none⟩) n ca, .int .i64 a, .int .i64 b, .int .i64 c, .int .i64 d, .int .i64 e, .int .i64 f] 43)) = w_0 at *
  have i_0 : In w.heap.size w w_0 := In.step (by (repeat (first | exact In.refl _ | assumption | apply In.alloc | apply In.drewN | apply In.drew | (refine In.step ?_ (by assumption))))) hb_0
  have k_0_A : Blk w_0 b_A 43 #[.slice (some ⟨ga, 0, none⟩) n ca, .int .i64 a, .int .i64 b, .int .i64 c, .int .i64 d, .int .i64 e, .int .i64 f] := kk_A
  have c_0_A_0 : w_0.cell? ⟨b_A, 0, none⟩ = some (.slice (some ⟨ga, 0, none⟩) n ca) := k_0_A.cell 0
  have c_0_A_1 : w_0.cell? ⟨b_A, 1, none⟩ = some (.int .i64 a) := k_0_A.cell 1
  have c_0_A_2 : w_0.cell? ⟨b_A, 2, none⟩ = some (.int .i64 b) := k_0_A.cell 2
  have c_0_A_3 : w_0.cell? ⟨b_A, 3, none⟩ = some (.int .i64 c) := k_0_A.cell 3
  have c_0_A_4 : w_0.cell? ⟨b_A, 4, none⟩ = some (.int .i64 d) := k_0_A.cell 4
  have c_0_A_5 : w_0.cell? ⟨b_A, 5, none⟩ = some (.int .i64 e) := k_0_A.cell 5
  have c_0_A_6 : w_0.cell? ⟨b_A, 6, none⟩ = some (.int .i64 f) := k_0_A.cell 6
  have l_0_A := k_0_A.lt
  clear kk_A
  have h41 : (n : Int) ≤ 41 := by omega
  refine (ibookOf ga n ca xs _ h41 (HX.out.in_ (by (repeat (first | exact In.refl _ | assumption | apply In.alloc | apply In.drewN | apply In.drew | (refine In.step ?_ (by assumption))))))).mono ?_
  rintro _ w_1 (⟨hcb, rfl, hb_1⟩ | ⟨hcb, gE, cE, rfl, hoE, hgE, hb_1⟩)
  · have i_1 : In w.heap.size w w_1 := In.step (by (repeat (first | exact In.refl _ | assumption | apply In.alloc | apply In.drewN | apply In.drew | (refine In.step ?_ (by assumption))))) hb_1
    have k_1_A : Blk w_1 b_A 43 #[.slice (some ⟨ga, 0, none⟩) n ca, .int .i64 a, .int .i64 b, .int .i64 c, .int .i64 d, .int .i64 e, .int .i64 f] := Blk.step (by (with_reducible (repeat (first | assumption | exact Blk.new' (by simp) | apply Blk.drewN | apply Blk.drew | apply Blk.alloc | (refine Blk.far ?_ (by (try simp) <;> omega) _))))) hb_1
    have c_1_A_0 : w_1.cell? ⟨b_A, 0, none⟩ = some (.slice (some ⟨ga, 0, none⟩) n ca) := k_1_A.cell 0
    have c_1_A_1 : w_1.cell? ⟨b_A, 1, none⟩ = some (.int .i64 a) := k_1_A.cell 1
    have c_1_A_2 : w_1.cell? ⟨b_A, 2, none⟩ = some (.int .i64 b) := k_1_A.cell 2
    have c_1_A_3 : w_1.cell? ⟨b_A, 3, none⟩ = some (.int .i64 c) := k_1_A.cell 3
    have c_1_A_4 : w_1.cell? ⟨b_A, 4, none⟩ = some (.int .i64 d) := k_1_A.cell 4
    have c_1_A_5 : w_1.cell? ⟨b_A, 5, none⟩ = some (.int .i64 e) := k_1_A.cell 5
    have c_1_A_6 : w_1.cell? ⟨b_A, 6, none⟩ = some (.int .i64 f) := k_1_A.cell 6
    have l_1_A := k_1_A.lt
    clear i_0 k_0_A c_0_A_0 c_0_A_1 c_0_A_2 c_0_A_3 c_0_A_4 c_0_A_5 c_0_A_6 l_0_A hb_0
    have HV : Hid (bkB n xs a b c d e f = false) := Lib.hid (by simp [bkB, hcb])
    go_wp2
    go_ret
    exact Val.mk' (v_bool HV.out.symm) (by (repeat (first | exact In.refl _ | assumption | apply In.alloc | apply In.drewN | apply In.drew | (refine In.step ?_ (by assumption)))))
  have i_1 : In w.heap.size w w_1 := In.step (by (repeat (first | exact In.refl _ | assumption | apply In.alloc | apply In.drewN | apply In.drew | (refine In.step ?_ (by assumption))))) hb_1
  have k_1_A : Blk w_1 b_A 43 #[.slice (some ⟨ga, 0, none⟩) n ca, .int .i64 a, .int .i64 b, .int .i64 c, .int .i64 d, .int .i64 e, .int .i64 f] := Blk.step (by (with_reducible (repeat (first | assumption | exact Blk.new' (by simp) | apply Blk.drewN | apply Blk.drew | apply Blk.alloc | (refine Blk.far ?_ (by (try simp) <;> omega) _))))) hb_1
  have c_1_A_0 : w_1.cell? ⟨b_A, 0, none⟩ = some (.slice (some ⟨ga, 0, none⟩) n ca) := k_1_A.cell 0
  have c_1_A_1 : w_1.cell? ⟨b_A, 1, none⟩ = some (.int .i64 a) := k_1_A.cell 1
  have c_1_A_2 : w_1.cell? ⟨b_A, 2, none⟩ = some (.int .i64 b) := k_1_A.cell 2
  have c_1_A_3 : w_1.cell? ⟨b_A, 3, none⟩ = some (.int .i64 c) := k_1_A.cell 3
  have c_1_A_4 : w_1.cell? ⟨b_A, 4, none⟩ = some (.int .i64 d) := k_1_A.cell 4
  have c_1_A_5 : w_1.cell? ⟨b_A, 5, none⟩ = some (.int .i64 e) := k_1_A.cell 5
  have c_1_A_6 : w_1.cell? ⟨b_A, 6, none⟩ = some (.int .i64 f) := k_1_A.cell 6
  have l_1_A := k_1_A.lt
  clear i_0 k_0_A c_0_A_0 c_0_A_1 c_0_A_2 c_0_A_3 c_0_A_4 c_0_A_5 c_0_A_6 l_0_A hb_0
  obtain ⟨s, hs⟩ : ∃ s, stTo xs n = s := ⟨_, rfl⟩
  rw [hs]
  obtain ⟨s0, s1, s2, s3, s4, s5⟩ := s
  have HB : Hid (bkB n xs a b c d e f = decide (s0 = a ∧ s1 = b ∧ s2 = c ∧ s3 = d ∧ s4 = e ∧ s5 = f)) := Lib.hid (by unfold bkB; rw [hs, hcb]; simp; intros; omega)
  have HB : Hid (bkB n xs a b c d e f = decide (a = s0 ∧ b = s1 ∧ c = s2 ∧ d = s3 ∧ e = s4 ∧ f = s5)) := Lib.hid (by rw [HB.out]; exact decide_eq_decide.2 ⟨fun h => by omega, fun h => by omega⟩)
  clear hs hcb hoE hgE
  simp only []
  iterate 22 go_step
  obtain ⟨b_N, hbx_N⟩ : ∃ b, b = w_1.heap.size := ⟨_, rfl⟩
  rw [← hbx_N]
  have hwb_N : w.heap.size ≤ b_N := by have h := In.size i_1; omega
  have NB_A_N : Hid (b_A ≠ b_N) := Lib.hid (by have h := k_1_A.lt; omega)
  have hb_2 : Below w_1.heap.size w_1 (w_1.alloc (.cells #[.slice (some ⟨gE, 0, none⟩) n cE, .int .i64 s0, .int .i64 s1, .int .i64 s2, .int .i64 s3, .int .i64 s4, .int .i64 s5] 43)) := (Below.refl _ _).alloc (Nat.le_refl _) _
  have kk_2 : Blk (w_1.alloc (.cells #[.slice (some ⟨gE, 0, none⟩) n cE, .int .i64 s0, .int .i64 s1, .int .i64 s2, .int .i64 s3, .int .i64 s4, .int .i64 s5] 43)) b_N 43 #[.slice (some ⟨gE, 0, none⟩) n cE, .int .i64 s0, .int .i64 s1, .int .i64 s2, .int .i64 s3, .int .i64 s4, .int .i64 s5] := Blk.new' hbx_N
  clear hbx_N
  generalize (w_1.alloc (.cells #[.slice (some ⟨gE, 0, none⟩) n cE, .int .i64 s0, .int .i64 s1, .int .i64 s2, .int .i64 s3, .int .i64 s4, .int .i64 s5] 43)) = w_2 at *
  have i_2 : In w.heap.size w w_2 := In.step (by (repeat (first | exact In.refl _ | assumption | apply In.alloc | apply In.drewN | apply In.drew | (refine In.step ?_ (by assumption))))) hb_2
  have k_2_A : Blk w_2 b_A 43 #[.slice (some ⟨ga, 0, none⟩) n ca, .int .i64 a, .int .i64 b, .int .i64 c, .int .i64 d, .int .i64 e, .int .i64 f] := Blk.step (by (with_reducible (repeat (first | assumption | exact Blk.new' (by simp) | apply Blk.drewN | apply Blk.drew | apply Blk.alloc | (refine Blk.far ?_ (by (try simp) <;> omega) _))))) hb_2
  have c_2_A_0 : w_2.cell? ⟨b_A, 0, none⟩ = some (.slice (some ⟨ga, 0, none⟩) n ca) := k_2_A.cell 0
  have c_2_A_1 : w_2.cell? ⟨b_A, 1, none⟩ = some (.int .i64 a) := k_2_A.cell 1
  have c_2_A_2 : w_2.cell? ⟨b_A, 2, none⟩ = some (.int .i64 b) := k_2_A.cell 2
  have c_2_A_3 : w_2.cell? ⟨b_A, 3, none⟩ = some (.int .i64 c) := k_2_A.cell 3
  have c_2_A_4 : w_2.cell? ⟨b_A, 4, none⟩ = some (.int .i64 d) := k_2_A.cell 4
  have c_2_A_5 : w_2.cell? ⟨b_A, 5, none⟩ = some (.int .i64 e) := k_2_A.cell 5
  have c_2_A_6 : w_2.cell? ⟨b_A, 6, none⟩ = some (.int .i64 f) := k_2_A.cell 6
  have l_2_A := k_2_A.lt
  have k_2_N : Blk w_2 b_N 43 #[.slice (some ⟨gE, 0, none⟩) n cE, .int .i64 s0, .int .i64 s1, .int .i64 s2, .int .i64 s3, .int .i64 s4, .int .i64 s5] := kk_2
  have c_2_N_0 : w_2.cell? ⟨b_N, 0, none⟩ = some (.slice (some ⟨gE, 0, none⟩) n cE) := k_2_N.cell 0
  have c_2_N_1 : w_2.cell? ⟨b_N, 1, none⟩ = some (.int .i64 s0) := k_2_N.cell 1
  have c_2_N_2 : w_2.cell? ⟨b_N, 2, none⟩ = some (.int .i64 s1) := k_2_N.cell 2
  have c_2_N_3 : w_2.cell? ⟨b_N, 3, none⟩ = some (.int .i64 s2) := k_2_N.cell 3
  have c_2_N_4 : w_2.cell? ⟨b_N, 4, none⟩ = some (.int .i64 s3) := k_2_N.cell 4
  have c_2_N_5 : w_2.cell? ⟨b_N, 5, none⟩ = some (.int .i64 s4) := k_2_N.cell 5
  have c_2_N_6 : w_2.cell? ⟨b_N, 6, none⟩ = some (.int .i64 s5) := k_2_N.cell 6
  have l_2_N := k_2_N.lt
  clear i_1 k_1_A c_1_A_0 c_1_A_1 c_1_A_2 c_1_A_3 c_1_A_4 c_1_A_5 c_1_A_6 l_1_A hb_1
  clear kk_2
  go_wp2
  all_goals go_ret
  all_goals (refine Val.mk' (v_bool ?_) (by (repeat (first | exact In.refl _ | assumption | apply In.alloc | apply In.drewN | apply In.drew | (refine In.step ?_ (by assumption))))); rw [HB.out]; first | (simp_all; done) | (simp_all; rfl))
def dayTo (xs : List EventR) : Nat → Int
  | 0 => 0
  | k + 1 => dayTo xs k + (if (xs.getD k ⟨0, 0⟩).f0 = 4 then 1 else 0)
theorem dayTo_in (xs : List EventR) (n : Nat) : 0 ≤ dayTo xs n ∧ dayTo xs n ≤ n := by
  induction n with
  | zero => simp [dayTo]
  | succ n ih => rw [dayTo]; split <;> omega
def daysV (n : Nat) (xs : List EventR) (a b c d e f : Int) : Int := if bkB n xs a b c d e f then dayTo xs n else -1
end Go.Proofs.Ytmcfghklfkmfkaa
