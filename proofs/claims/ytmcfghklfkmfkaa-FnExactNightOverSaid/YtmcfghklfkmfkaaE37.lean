/- Chapter 37: EventOn of the program. -/
import Derived.Test.YtmcfghklfkmfkaaD37
namespace Go.Proofs.Ytmcfghklfkmfkaa
open Go.ChangeShapes Go.WideShapes Go.ChangeAt Go.RowKit
set_option linter.unusedVariables false
set_option linter.unusedSimpArgs false
set_option maxHeartbeats 2000000

theorem iEventOn (a b c k n : Int) (w : World) : Calls Try.prog 97 #[.agg #[.int .i64 a, .int .i64 b, .int .i64 c], .agg #[.int .i64 k, .int .i64 n]] w (Val (evT (evR a b c k n)) w) := by
  by_cases hh : rackB a b c = true ∧ inB n 0 1000 = true
  · obtain ⟨h1, h2⟩ := hh
    by_cases k1 : k = 1
    · subst k1; exact iEv1 a b c n w h1 h2
    by_cases k2 : k = 2
    · subst k2; exact iEv2 a b c n w h1 h2
    by_cases k3 : k = 3
    · subst k3; exact iEv3 a b c n w h1 h2
    by_cases k4 : k = 4
    · subst k4; exact iEv4 a b c n w h1 h2
    exact iEv0 a b c k n w h1 h2 k1 k2 k3 k4
  have HV : Hid (evR a b c k n = ⟨a, b, c, 0, 0, 0, false⟩) := Lib.hid (by
    unfold evR
    rw [if_neg (by simpa using hh)])
  obtain ⟨b_A, hbx_A⟩ : ∃ b, b = w.heap.size := ⟨_, rfl⟩
  have kk_A : Blk (((w.alloc (.cells #[.int .i64 a, .int .i64 b, .int .i64 c] 41)).alloc (.cells #[.int .i64 k, .int .i64 n] 78)).alloc (.cells #[.int .i64 0, .int .i64 0, .int .i64 0] 41)) b_A 41 #[.int .i64 a, .int .i64 b, .int .i64 c] := (((Blk.new' (w := w) (t := 41) (cs := #[.int .i64 a, .int .i64 b, .int .i64 c]) (g := b_A) (by simp [hbx_A])).alloc (.cells #[.int .i64 k, .int .i64 n] 78)).alloc (.cells #[.int .i64 0, .int .i64 0, .int .i64 0] 41))
  have hwb_A : w.heap.size ≤ b_A := by omega
  obtain ⟨b_E, hbx_E⟩ : ∃ b, b = w.heap.size + 1 := ⟨_, rfl⟩
  have kk_E : Blk (((w.alloc (.cells #[.int .i64 a, .int .i64 b, .int .i64 c] 41)).alloc (.cells #[.int .i64 k, .int .i64 n] 78)).alloc (.cells #[.int .i64 0, .int .i64 0, .int .i64 0] 41)) b_E 78 #[.int .i64 k, .int .i64 n] := ((Blk.new' (w := (w.alloc (.cells #[.int .i64 a, .int .i64 b, .int .i64 c] 41))) (t := 78) (cs := #[.int .i64 k, .int .i64 n]) (g := b_E) (by simp [hbx_E])).alloc (.cells #[.int .i64 0, .int .i64 0, .int .i64 0] 41))
  have hwb_E : w.heap.size ≤ b_E := by omega
  obtain ⟨b_R, hbx_R⟩ : ∃ b, b = w.heap.size + 1 + 1 := ⟨_, rfl⟩
  have kk_R : Blk (((w.alloc (.cells #[.int .i64 a, .int .i64 b, .int .i64 c] 41)).alloc (.cells #[.int .i64 k, .int .i64 n] 78)).alloc (.cells #[.int .i64 0, .int .i64 0, .int .i64 0] 41)) b_R 41 #[.int .i64 0, .int .i64 0, .int .i64 0] := (Blk.new' (w := ((w.alloc (.cells #[.int .i64 a, .int .i64 b, .int .i64 c] 41)).alloc (.cells #[.int .i64 k, .int .i64 n] 78))) (t := 41) (cs := #[.int .i64 0, .int .i64 0, .int .i64 0]) (g := b_R) (by simp [hbx_R]))
  have hwb_R : w.heap.size ≤ b_R := by omega
  have NB_A_E : Hid (b_A ≠ b_E) := Lib.hid (by omega)
  have NB_A_R : Hid (b_A ≠ b_R) := Lib.hid (by omega)
  have NB_E_R : Hid (b_E ≠ b_R) := Lib.hid (by omega)
  have hb_0 : Below w.heap.size w (((w.alloc (.cells #[.int .i64 a, .int .i64 b, .int .i64 c] 41)).alloc (.cells #[.int .i64 k, .int .i64 n] 78)).alloc (.cells #[.int .i64 0, .int .i64 0, .int .i64 0] 41)) := by
    have h : In w.heap.size w (((w.alloc (.cells #[.int .i64 a, .int .i64 b, .int .i64 c] 41)).alloc (.cells #[.int .i64 k, .int .i64 n] 78)).alloc (.cells #[.int .i64 0, .int .i64 0, .int .i64 0] 41)) := by (repeat (first | exact In.refl _ | assumption | apply In.alloc | apply In.drewN | apply In.drew | (refine In.step ?_ (by assumption))))
    exact h.below
  go_enter Try.func97, Try.ntmps97
  go_wp2_with fail
  rw [← hbx_R]
  clear hbx_R
  rw [← hbx_E]
  clear hbx_E
  rw [← hbx_A]
  clear hbx_A
  generalize (((w.alloc (.cells #[.int .i64 a, .int .i64 b, .int .i64 c] 41)).alloc (.cells #[.int .i64 k, .int .i64 n] 78)).alloc (.cells #[.int .i64 0, .int .i64 0, .int .i64 0] 41)) = w_0 at *
  have i_0 : In w.heap.size w w_0 := In.step (by (repeat (first | exact In.refl _ | assumption | apply In.alloc | apply In.drewN | apply In.drew | (refine In.step ?_ (by assumption))))) hb_0
  have k_0_A : Blk w_0 b_A 41 #[.int .i64 a, .int .i64 b, .int .i64 c] := kk_A
  have c_0_A_0 : w_0.cell? ⟨b_A, 0, none⟩ = some (.int .i64 a) := k_0_A.cell 0
  have c_0_A_1 : w_0.cell? ⟨b_A, 1, none⟩ = some (.int .i64 b) := k_0_A.cell 1
  have c_0_A_2 : w_0.cell? ⟨b_A, 2, none⟩ = some (.int .i64 c) := k_0_A.cell 2
  have l_0_A := k_0_A.lt
  have k_0_E : Blk w_0 b_E 78 #[.int .i64 k, .int .i64 n] := kk_E
  have c_0_E_0 : w_0.cell? ⟨b_E, 0, none⟩ = some (.int .i64 k) := k_0_E.cell 0
  have c_0_E_1 : w_0.cell? ⟨b_E, 1, none⟩ = some (.int .i64 n) := k_0_E.cell 1
  have l_0_E := k_0_E.lt
  have k_0_R : Blk w_0 b_R 41 #[.int .i64 0, .int .i64 0, .int .i64 0] := kk_R
  have c_0_R_0 : w_0.cell? ⟨b_R, 0, none⟩ = some (.int .i64 0) := k_0_R.cell 0
  have c_0_R_1 : w_0.cell? ⟨b_R, 1, none⟩ = some (.int .i64 0) := k_0_R.cell 1
  have c_0_R_2 : w_0.cell? ⟨b_R, 2, none⟩ = some (.int .i64 0) := k_0_R.cell 2
  have l_0_R := k_0_R.lt
  have z_0_R_0 := k_0_R.frozen 0
  have z_0_R_1 := k_0_R.frozen 1
  have z_0_R_2 := k_0_R.frozen 2
  clear kk_A kk_E kk_R
  go_wp2_with fail
  refine (iRackOk a b c _).mono ?_
  rintro _ w_1 ⟨rfl, hb_1⟩
  have i_1 : In w.heap.size w w_1 := In.step (by (repeat (first | exact In.refl _ | assumption | apply In.alloc | apply In.drewN | apply In.drew | (refine In.step ?_ (by assumption))))) hb_1
  have k_1_A : Blk w_1 b_A 41 #[.int .i64 a, .int .i64 b, .int .i64 c] := Blk.step (by (with_reducible (repeat (first | assumption | exact Blk.new' (by simp) | apply Blk.drewN | apply Blk.drew | apply Blk.alloc | (refine Blk.far ?_ (by (try simp) <;> omega) _))))) hb_1
  have c_1_A_0 : w_1.cell? ⟨b_A, 0, none⟩ = some (.int .i64 a) := k_1_A.cell 0
  have c_1_A_1 : w_1.cell? ⟨b_A, 1, none⟩ = some (.int .i64 b) := k_1_A.cell 1
  have c_1_A_2 : w_1.cell? ⟨b_A, 2, none⟩ = some (.int .i64 c) := k_1_A.cell 2
  have l_1_A := k_1_A.lt
  have k_1_E : Blk w_1 b_E 78 #[.int .i64 k, .int .i64 n] := Blk.step (by (with_reducible (repeat (first | assumption | exact Blk.new' (by simp) | apply Blk.drewN | apply Blk.drew | apply Blk.alloc | (refine Blk.far ?_ (by (try simp) <;> omega) _))))) hb_1
  have c_1_E_0 : w_1.cell? ⟨b_E, 0, none⟩ = some (.int .i64 k) := k_1_E.cell 0
  have c_1_E_1 : w_1.cell? ⟨b_E, 1, none⟩ = some (.int .i64 n) := k_1_E.cell 1
  have l_1_E := k_1_E.lt
  have k_1_R : Blk w_1 b_R 41 #[.int .i64 0, .int .i64 0, .int .i64 0] := Blk.step (by (with_reducible (repeat (first | assumption | exact Blk.new' (by simp) | apply Blk.drewN | apply Blk.drew | apply Blk.alloc | (refine Blk.far ?_ (by (try simp) <;> omega) _))))) hb_1
  have c_1_R_0 : w_1.cell? ⟨b_R, 0, none⟩ = some (.int .i64 0) := k_1_R.cell 0
  have c_1_R_1 : w_1.cell? ⟨b_R, 1, none⟩ = some (.int .i64 0) := k_1_R.cell 1
  have c_1_R_2 : w_1.cell? ⟨b_R, 2, none⟩ = some (.int .i64 0) := k_1_R.cell 2
  have l_1_R := k_1_R.lt
  have z_1_R_0 := k_1_R.frozen 0
  have z_1_R_1 := k_1_R.frozen 1
  have z_1_R_2 := k_1_R.frozen 2
  clear i_0 k_0_A c_0_A_0 c_0_A_1 c_0_A_2 l_0_A k_0_E c_0_E_0 c_0_E_1 l_0_E k_0_R c_0_R_0 c_0_R_1 c_0_R_2 l_0_R z_0_R_0 z_0_R_1 z_0_R_2 hb_0
  cases h1 : rackB a b c
  · have kk : Blk (((w_1.setCell ⟨b_R, 0, none⟩ (.int .i64 a)).setCell ⟨b_R, 1, none⟩ (.int .i64 b)).setCell ⟨b_R, 2, none⟩ (.int .i64 c)) b_R 41 #[.int .i64 a, .int .i64 b, .int .i64 c] := by
      have h := (((k_1_R.set_ 0 (.int .i64 a)).set_ 1 (.int .i64 b)).set_ 2 (.int .i64 c))
      simpa using h
    have i9 : In w.heap.size w (((w_1.setCell ⟨b_R, 0, none⟩ (.int .i64 a)).setCell ⟨b_R, 1, none⟩ (.int .i64 b)).setCell ⟨b_R, 2, none⟩ (.int .i64 c)) := (In.set_ (In.set_ (In.set_ i_1 (p := ⟨b_R, 0, none⟩) hwb_R _) (p := ⟨b_R, 1, none⟩) hwb_R _) (p := ⟨b_R, 2, none⟩) hwb_R _)
    have HK0 : Hid ((((w_1.setCell ⟨b_R, 0, none⟩ (.int .i64 a)).setCell ⟨b_R, 1, none⟩ (.int .i64 b)).setCell ⟨b_R, 2, none⟩ (.int .i64 c)).cell? ⟨b_R, 0, none⟩ = some (.int .i64 a)) := Lib.hid (kk.cell 0)
    have HK1 : Hid ((((w_1.setCell ⟨b_R, 0, none⟩ (.int .i64 a)).setCell ⟨b_R, 1, none⟩ (.int .i64 b)).setCell ⟨b_R, 2, none⟩ (.int .i64 c)).cell? ⟨b_R, 1, none⟩ = some (.int .i64 b)) := Lib.hid (kk.cell 1)
    have HK2 : Hid ((((w_1.setCell ⟨b_R, 0, none⟩ (.int .i64 a)).setCell ⟨b_R, 1, none⟩ (.int .i64 b)).setCell ⟨b_R, 2, none⟩ (.int .i64 c)).cell? ⟨b_R, 2, none⟩ = some (.int .i64 c)) := Lib.hid (kk.cell 2)
    clear kk
    go_wp2_with (first | (go_at_call 49; refine (sIn _ _ _ _).mono ?_; rintro e w' ⟨rfl, rfl⟩) | (go_at_call 83; refine (iIn _ _ _ _).mono ?_; rintro e w' ⟨rfl, rfl⟩))
    have hk0 := HK0.out
    have hk1 := HK1.out
    have hk2 := HK2.out
    exact bodyPost_ret (v := .tuple #[.agg #[.int .i64 a, .int .i64 b, .int .i64 c], .int .i64 0, .int .i64 0, .int .i64 0, .bool false]) (by simp [results, Try.results97, go_sem, hk0, hk1, hk2]) rfl (Val.mk' (by rw [HV.out]; rfl) i9)
  have h2 : inB n 0 1000 = false := by
    cases h2 : inB n 0 1000
    · rfl
    · exact absurd ⟨h1, h2⟩ hh
  have kk : Blk (((w_1.setCell ⟨b_R, 0, none⟩ (.int .i64 a)).setCell ⟨b_R, 1, none⟩ (.int .i64 b)).setCell ⟨b_R, 2, none⟩ (.int .i64 c)) b_R 41 #[.int .i64 a, .int .i64 b, .int .i64 c] := by
    have h := (((k_1_R.set_ 0 (.int .i64 a)).set_ 1 (.int .i64 b)).set_ 2 (.int .i64 c))
    simpa using h
  have i9 : In w.heap.size w (((w_1.setCell ⟨b_R, 0, none⟩ (.int .i64 a)).setCell ⟨b_R, 1, none⟩ (.int .i64 b)).setCell ⟨b_R, 2, none⟩ (.int .i64 c)) := (In.set_ (In.set_ (In.set_ i_1 (p := ⟨b_R, 0, none⟩) hwb_R _) (p := ⟨b_R, 1, none⟩) hwb_R _) (p := ⟨b_R, 2, none⟩) hwb_R _)
  have HK0 : Hid ((((w_1.setCell ⟨b_R, 0, none⟩ (.int .i64 a)).setCell ⟨b_R, 1, none⟩ (.int .i64 b)).setCell ⟨b_R, 2, none⟩ (.int .i64 c)).cell? ⟨b_R, 0, none⟩ = some (.int .i64 a)) := Lib.hid (kk.cell 0)
  have HK1 : Hid ((((w_1.setCell ⟨b_R, 0, none⟩ (.int .i64 a)).setCell ⟨b_R, 1, none⟩ (.int .i64 b)).setCell ⟨b_R, 2, none⟩ (.int .i64 c)).cell? ⟨b_R, 1, none⟩ = some (.int .i64 b)) := Lib.hid (kk.cell 1)
  have HK2 : Hid ((((w_1.setCell ⟨b_R, 0, none⟩ (.int .i64 a)).setCell ⟨b_R, 1, none⟩ (.int .i64 b)).setCell ⟨b_R, 2, none⟩ (.int .i64 c)).cell? ⟨b_R, 2, none⟩ = some (.int .i64 c)) := Lib.hid (kk.cell 2)
  clear kk
  go_wp2_with (first | (go_at_call 49; refine (sIn _ _ _ _).mono ?_; rintro e w' ⟨rfl, rfl⟩) | (go_at_call 83; refine (iIn _ _ _ _).mono ?_; rintro e w' ⟨rfl, rfl⟩))
  have hk0 := HK0.out
  have hk1 := HK1.out
  have hk2 := HK2.out
  exact bodyPost_ret (v := .tuple #[.agg #[.int .i64 a, .int .i64 b, .int .i64 c], .int .i64 0, .int .i64 0, .int .i64 0, .bool false]) (by simp [results, Try.results97, go_sem, hk0, hk1, hk2]) rfl (Val.mk' (by rw [HV.out]; rfl) i9)
end Go.Proofs.Ytmcfghklfkmfkaa
