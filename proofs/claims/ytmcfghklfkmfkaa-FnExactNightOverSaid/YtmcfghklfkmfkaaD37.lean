/- Chapter 37: EventOn of the program, by kinds. -/
import Derived.Test.YtmcfghklfkmfkaaC37
import Derived.IntWalk
namespace Go.Proofs.Ytmcfghklfkmfkaa
open Go.ChangeShapes Go.WideShapes Go.ChangeAt Go.RowKit
set_option linter.unusedVariables false
set_option linter.unusedSimpArgs false
set_option maxHeartbeats 2000000

set_option maxHeartbeats 4000000 in
theorem iEv1 (a b c n : Int) (w : World) (h1 : rackB a b c = true) (h2 : inB n 0 1000 = true) : Calls Try.prog 97 #[.agg #[.int .i64 a, .int .i64 b, .int .i64 c], .agg #[.int .i64 1, .int .i64 n]] w (Val (evT (evR a b c 1 n)) w) := by
  obtain ⟨b_A, hbx_A⟩ : ∃ b, b = w.heap.size := ⟨_, rfl⟩
  have kk_A : Blk (((w.alloc (.cells #[.int .i64 a, .int .i64 b, .int .i64 c] 41)).alloc (.cells #[.int .i64 1, .int .i64 n] 78)).alloc (.cells #[.int .i64 0, .int .i64 0, .int .i64 0] 41)) b_A 41 #[.int .i64 a, .int .i64 b, .int .i64 c] := (((Blk.new' (w := w) (t := 41) (cs := #[.int .i64 a, .int .i64 b, .int .i64 c]) (g := b_A) (by simp [hbx_A])).alloc (.cells #[.int .i64 1, .int .i64 n] 78)).alloc (.cells #[.int .i64 0, .int .i64 0, .int .i64 0] 41))
  have hwb_A : w.heap.size ≤ b_A := by omega
  obtain ⟨b_E, hbx_E⟩ : ∃ b, b = w.heap.size + 1 := ⟨_, rfl⟩
  have kk_E : Blk (((w.alloc (.cells #[.int .i64 a, .int .i64 b, .int .i64 c] 41)).alloc (.cells #[.int .i64 1, .int .i64 n] 78)).alloc (.cells #[.int .i64 0, .int .i64 0, .int .i64 0] 41)) b_E 78 #[.int .i64 1, .int .i64 n] := ((Blk.new' (w := (w.alloc (.cells #[.int .i64 a, .int .i64 b, .int .i64 c] 41))) (t := 78) (cs := #[.int .i64 1, .int .i64 n]) (g := b_E) (by simp [hbx_E])).alloc (.cells #[.int .i64 0, .int .i64 0, .int .i64 0] 41))
  have hwb_E : w.heap.size ≤ b_E := by omega
  obtain ⟨b_R, hbx_R⟩ : ∃ b, b = w.heap.size + 1 + 1 := ⟨_, rfl⟩
  have kk_R : Blk (((w.alloc (.cells #[.int .i64 a, .int .i64 b, .int .i64 c] 41)).alloc (.cells #[.int .i64 1, .int .i64 n] 78)).alloc (.cells #[.int .i64 0, .int .i64 0, .int .i64 0] 41)) b_R 41 #[.int .i64 0, .int .i64 0, .int .i64 0] := (Blk.new' (w := ((w.alloc (.cells #[.int .i64 a, .int .i64 b, .int .i64 c] 41)).alloc (.cells #[.int .i64 1, .int .i64 n] 78))) (t := 41) (cs := #[.int .i64 0, .int .i64 0, .int .i64 0]) (g := b_R) (by simp [hbx_R]))
  have hwb_R : w.heap.size ≤ b_R := by omega
  have NB_A_E : Hid (b_A ≠ b_E) := Lib.hid (by omega)
  have NB_A_R : Hid (b_A ≠ b_R) := Lib.hid (by omega)
  have NB_E_R : Hid (b_E ≠ b_R) := Lib.hid (by omega)
  have hb_0 : Below w.heap.size w (((w.alloc (.cells #[.int .i64 a, .int .i64 b, .int .i64 c] 41)).alloc (.cells #[.int .i64 1, .int .i64 n] 78)).alloc (.cells #[.int .i64 0, .int .i64 0, .int .i64 0] 41)) := by
    have h : In w.heap.size w (((w.alloc (.cells #[.int .i64 a, .int .i64 b, .int .i64 c] 41)).alloc (.cells #[.int .i64 1, .int .i64 n] 78)).alloc (.cells #[.int .i64 0, .int .i64 0, .int .i64 0] 41)) := by (repeat (first | exact In.refl _ | assumption | apply In.alloc | apply In.drewN | apply In.drew | (refine In.step ?_ (by assumption))))
    exact h.below
  go_enter Try.func97, Try.ntmps97
  go_wp2_with fail
  rw [← hbx_R]
  clear hbx_R
  rw [← hbx_E]
  clear hbx_E
  rw [← hbx_A]
  clear hbx_A
  generalize (((w.alloc (.cells #[.int .i64 a, .int .i64 b, .int .i64 c] 41)).alloc (.cells #[.int .i64 1, .int .i64 n] 78)).alloc (.cells #[.int .i64 0, .int .i64 0, .int .i64 0] 41)) = w_0 at *
  have i_0 : In w.heap.size w w_0 := In.step (by (repeat (first | exact In.refl _ | assumption | apply In.alloc | apply In.drewN | apply In.drew | (refine In.step ?_ (by assumption))))) hb_0
  have k_0_A : Blk w_0 b_A 41 #[.int .i64 a, .int .i64 b, .int .i64 c] := kk_A
  obtain ⟨c_0_A_0, c_0_A_1, c_0_A_2⟩ := cells3 k_0_A
  have l_0_A := k_0_A.lt
  have k_0_E : Blk w_0 b_E 78 #[.int .i64 1, .int .i64 n] := kk_E
  obtain ⟨c_0_E_0, c_0_E_1⟩ := cells2 k_0_E
  have l_0_E := k_0_E.lt
  have k_0_R : Blk w_0 b_R 41 #[.int .i64 0, .int .i64 0, .int .i64 0] := kk_R
  obtain ⟨c_0_R_0, c_0_R_1, c_0_R_2⟩ := cells3 k_0_R
  have l_0_R := k_0_R.lt
  have z_0_R_0 := k_0_R.frozen 0
  have z_0_R_1 := k_0_R.frozen 1
  have z_0_R_2 := k_0_R.frozen 2
  clear kk_A kk_E kk_R
  go_wp2_with fail
  refine (iRackOk a b c _).mono ?_
  rintro _ w_1 ⟨rfl, hb_1⟩
  rw [h1]
  have i_1 : In w.heap.size w w_1 := In.step (by (repeat (first | exact In.refl _ | assumption | apply In.alloc | apply In.drewN | apply In.drew | (refine In.step ?_ (by assumption))))) hb_1
  have k_1_A : Blk w_1 b_A 41 #[.int .i64 a, .int .i64 b, .int .i64 c] := Blk.step (by (with_reducible (repeat (first | assumption | exact Blk.new' (by simp) | apply Blk.drewN | apply Blk.drew | apply Blk.alloc | (refine Blk.far ?_ (by (try simp) <;> omega) _))))) hb_1
  obtain ⟨c_1_A_0, c_1_A_1, c_1_A_2⟩ := cells3 k_1_A
  have l_1_A := k_1_A.lt
  have k_1_E : Blk w_1 b_E 78 #[.int .i64 1, .int .i64 n] := Blk.step (by (with_reducible (repeat (first | assumption | exact Blk.new' (by simp) | apply Blk.drewN | apply Blk.drew | apply Blk.alloc | (refine Blk.far ?_ (by (try simp) <;> omega) _))))) hb_1
  obtain ⟨c_1_E_0, c_1_E_1⟩ := cells2 k_1_E
  have l_1_E := k_1_E.lt
  have k_1_R : Blk w_1 b_R 41 #[.int .i64 0, .int .i64 0, .int .i64 0] := Blk.step (by (with_reducible (repeat (first | assumption | exact Blk.new' (by simp) | apply Blk.drewN | apply Blk.drew | apply Blk.alloc | (refine Blk.far ?_ (by (try simp) <;> omega) _))))) hb_1
  obtain ⟨c_1_R_0, c_1_R_1, c_1_R_2⟩ := cells3 k_1_R
  have l_1_R := k_1_R.lt
  have z_1_R_0 := k_1_R.frozen 0
  have z_1_R_1 := k_1_R.frozen 1
  have z_1_R_2 := k_1_R.frozen 2
  clear i_0 k_0_A c_0_A_0 c_0_A_1 c_0_A_2 l_0_A k_0_E c_0_E_0 c_0_E_1 l_0_E k_0_R c_0_R_0 c_0_R_1 c_0_R_2 l_0_R z_0_R_0 z_0_R_1 z_0_R_2 hb_0
  obtain ⟨r1, r2, r3, r4, r5, r6⟩ := rack_in h1
  obtain ⟨n1, n2⟩ := inB_tt h2
  have hsb : sellB a b c n = true := by simp [sellB, h1, inB]; omega
  have e1 : wrap64 (a + n) = a + n := w64 (by omega)
  have e2 : IntKind.i64.wrap (a + n) = a + n := IntWalk.i64_in _ (by omega)
  go_wp2_with (first | (go_at_call 49; refine (sIn _ _ _ _).mono ?_; rintro e w' ⟨rfl, rfl⟩) | (go_at_call 83; refine (iIn _ _ _ _).mono ?_; rintro e w' ⟨rfl, rfl⟩))
  obtain ⟨b_N, hbx_N⟩ : ∃ b, b = w_1.heap.size := ⟨_, rfl⟩
  rw [← hbx_N]
  have hwb_N : w.heap.size ≤ b_N := by have h := In.size i_1; omega
  have NB_A_N : Hid (b_A ≠ b_N) := Lib.hid (by have h := k_1_A.lt; omega)
  have NB_E_N : Hid (b_E ≠ b_N) := Lib.hid (by have h := k_1_E.lt; omega)
  have NB_R_N : Hid (b_R ≠ b_N) := Lib.hid (by have h := k_1_R.lt; omega)
  have hb_2 : Below w_1.heap.size w_1 (w_1.alloc (.cells #[.int .i64 (a + n), .int .i64 b, .int .i64 c] 41)) := (Below.refl _ _).alloc (Nat.le_refl _) _
  have kk_2 : Blk (w_1.alloc (.cells #[.int .i64 (a + n), .int .i64 b, .int .i64 c] 41)) b_N 41 #[.int .i64 (a + n), .int .i64 b, .int .i64 c] := Blk.new' hbx_N
  clear hbx_N
  generalize (w_1.alloc (.cells #[.int .i64 (a + n), .int .i64 b, .int .i64 c] 41)) = w_2 at *
  have i_2 : In w.heap.size w w_2 := In.step (by (repeat (first | exact In.refl _ | assumption | apply In.alloc | apply In.drewN | apply In.drew | (refine In.step ?_ (by assumption))))) hb_2
  have k_2_A : Blk w_2 b_A 41 #[.int .i64 a, .int .i64 b, .int .i64 c] := Blk.step (by (with_reducible (repeat (first | assumption | exact Blk.new' (by simp) | apply Blk.drewN | apply Blk.drew | apply Blk.alloc | (refine Blk.far ?_ (by (try simp) <;> omega) _))))) hb_2
  obtain ⟨c_2_A_0, c_2_A_1, c_2_A_2⟩ := cells3 k_2_A
  have l_2_A := k_2_A.lt
  have k_2_E : Blk w_2 b_E 78 #[.int .i64 1, .int .i64 n] := Blk.step (by (with_reducible (repeat (first | assumption | exact Blk.new' (by simp) | apply Blk.drewN | apply Blk.drew | apply Blk.alloc | (refine Blk.far ?_ (by (try simp) <;> omega) _))))) hb_2
  obtain ⟨c_2_E_0, c_2_E_1⟩ := cells2 k_2_E
  have l_2_E := k_2_E.lt
  have k_2_R : Blk w_2 b_R 41 #[.int .i64 0, .int .i64 0, .int .i64 0] := Blk.step (by (with_reducible (repeat (first | assumption | exact Blk.new' (by simp) | apply Blk.drewN | apply Blk.drew | apply Blk.alloc | (refine Blk.far ?_ (by (try simp) <;> omega) _))))) hb_2
  obtain ⟨c_2_R_0, c_2_R_1, c_2_R_2⟩ := cells3 k_2_R
  have l_2_R := k_2_R.lt
  have z_2_R_0 := k_2_R.frozen 0
  have z_2_R_1 := k_2_R.frozen 1
  have z_2_R_2 := k_2_R.frozen 2
  have k_2_N : Blk w_2 b_N 41 #[.int .i64 (a + n), .int .i64 b, .int .i64 c] := kk_2
  obtain ⟨c_2_N_0, c_2_N_1, c_2_N_2⟩ := cells3 k_2_N
  have l_2_N := k_2_N.lt
  have z_2_N_0 := k_2_N.frozen 0
  have z_2_N_1 := k_2_N.frozen 1
  have z_2_N_2 := k_2_N.frozen 2
  clear i_1 k_1_A c_1_A_0 c_1_A_1 c_1_A_2 l_1_A k_1_E c_1_E_0 c_1_E_1 l_1_E k_1_R c_1_R_0 c_1_R_1 c_1_R_2 l_1_R z_1_R_0 z_1_R_1 z_1_R_2 hb_1
  clear kk_2
  go_wp2_with fail
  refine (iRackOk (a + n) b c _).mono ?_
  rintro _ w_3 ⟨rfl, hb_3⟩
  have i_3 : In w.heap.size w w_3 := In.step (by (repeat (first | exact In.refl _ | assumption | apply In.alloc | apply In.drewN | apply In.drew | (refine In.step ?_ (by assumption))))) hb_3
  have k_3_A : Blk w_3 b_A 41 #[.int .i64 a, .int .i64 b, .int .i64 c] := Blk.step (by (with_reducible (repeat (first | assumption | exact Blk.new' (by simp) | apply Blk.drewN | apply Blk.drew | apply Blk.alloc | (refine Blk.far ?_ (by (try simp) <;> omega) _))))) hb_3
  obtain ⟨c_3_A_0, c_3_A_1, c_3_A_2⟩ := cells3 k_3_A
  have l_3_A := k_3_A.lt
  have k_3_E : Blk w_3 b_E 78 #[.int .i64 1, .int .i64 n] := Blk.step (by (with_reducible (repeat (first | assumption | exact Blk.new' (by simp) | apply Blk.drewN | apply Blk.drew | apply Blk.alloc | (refine Blk.far ?_ (by (try simp) <;> omega) _))))) hb_3
  obtain ⟨c_3_E_0, c_3_E_1⟩ := cells2 k_3_E
  have l_3_E := k_3_E.lt
  have k_3_R : Blk w_3 b_R 41 #[.int .i64 0, .int .i64 0, .int .i64 0] := Blk.step (by (with_reducible (repeat (first | assumption | exact Blk.new' (by simp) | apply Blk.drewN | apply Blk.drew | apply Blk.alloc | (refine Blk.far ?_ (by (try simp) <;> omega) _))))) hb_3
  obtain ⟨c_3_R_0, c_3_R_1, c_3_R_2⟩ := cells3 k_3_R
  have l_3_R := k_3_R.lt
  have z_3_R_0 := k_3_R.frozen 0
  have z_3_R_1 := k_3_R.frozen 1
  have z_3_R_2 := k_3_R.frozen 2
  have k_3_N : Blk w_3 b_N 41 #[.int .i64 (a + n), .int .i64 b, .int .i64 c] := Blk.step (by (with_reducible (repeat (first | assumption | exact Blk.new' (by simp) | apply Blk.drewN | apply Blk.drew | apply Blk.alloc | (refine Blk.far ?_ (by (try simp) <;> omega) _))))) hb_3
  obtain ⟨c_3_N_0, c_3_N_1, c_3_N_2⟩ := cells3 k_3_N
  have l_3_N := k_3_N.lt
  have z_3_N_0 := k_3_N.frozen 0
  have z_3_N_1 := k_3_N.frozen 1
  have z_3_N_2 := k_3_N.frozen 2
  clear i_2 k_2_A c_2_A_0 c_2_A_1 c_2_A_2 l_2_A k_2_E c_2_E_0 c_2_E_1 l_2_E k_2_R c_2_R_0 c_2_R_1 c_2_R_2 l_2_R z_2_R_0 z_2_R_1 z_2_R_2 k_2_N c_2_N_0 c_2_N_1 c_2_N_2 l_2_N z_2_N_0 z_2_N_1 z_2_N_2 hb_2
  cases h3 : rackB (a + n) b c
  · have HV : Hid (evR a b c 1 n = ⟨a, b, c, 0, 0, 0, false⟩) := Lib.hid (by simp [evR, h1, h2, h3])
    have kk : Blk (((w_3.setCell ⟨b_R, 0, none⟩ (.int .i64 a)).setCell ⟨b_R, 1, none⟩ (.int .i64 b)).setCell ⟨b_R, 2, none⟩ (.int .i64 c)) b_R 41 #[.int .i64 a, .int .i64 b, .int .i64 c] := by
      have h := (((k_3_R.set_ 0 (.int .i64 a)).set_ 1 (.int .i64 b)).set_ 2 (.int .i64 c))
      simpa using h
    have i9 : In w.heap.size w (((w_3.setCell ⟨b_R, 0, none⟩ (.int .i64 a)).setCell ⟨b_R, 1, none⟩ (.int .i64 b)).setCell ⟨b_R, 2, none⟩ (.int .i64 c)) := (In.set_ (In.set_ (In.set_ i_3 (p := ⟨b_R, 0, none⟩) hwb_R _) (p := ⟨b_R, 1, none⟩) hwb_R _) (p := ⟨b_R, 2, none⟩) hwb_R _)
    have HK0 : Hid ((_ : World).cell? ⟨b_R, 0, none⟩ = some (.int .i64 a)) := Lib.hid (kk.cell 0)
    have HK1 : Hid ((_ : World).cell? ⟨b_R, 1, none⟩ = some (.int .i64 b)) := Lib.hid (kk.cell 1)
    have HK2 : Hid ((_ : World).cell? ⟨b_R, 2, none⟩ = some (.int .i64 c)) := Lib.hid (kk.cell 2)
    clear kk
    go_wp2_with (first | (go_at_call 49; refine (sIn _ _ _ _).mono ?_; rintro e w' ⟨rfl, rfl⟩) | (go_at_call 83; refine (iIn _ _ _ _).mono ?_; rintro e w' ⟨rfl, rfl⟩))
    have hk0 := HK0.out
    have hk1 := HK1.out
    have hk2 := HK2.out
    exact bodyPost_ret (v := .tuple #[.agg #[.int .i64 a, .int .i64 b, .int .i64 c], .int .i64 0, .int .i64 0, .int .i64 0, .bool false]) (by simp [results, Try.results97, go_sem, hk0, hk1, hk2]) rfl (Val.mk' (by rw [HV.out]; rfl) i9)
  have hnb1 := NB_E_R.out
  have hnb2 := NB_R_N.out
  have HV : Hid (evR a b c 1 n = ⟨a + n, b, c, n, 0, 0, true⟩) := Lib.hid (by simp [evR, h1, h2, h3])
  have kk : Blk (((w_3.setCell ⟨b_R, 0, none⟩ (.int .i64 (a + n))).setCell ⟨b_R, 1, none⟩ (.int .i64 b)).setCell ⟨b_R, 2, none⟩ (.int .i64 c)) b_R 41 #[.int .i64 (a + n), .int .i64 b, .int .i64 c] := by
    have h := (((k_3_R.set_ 0 (.int .i64 (a + n))).set_ 1 (.int .i64 b)).set_ 2 (.int .i64 c))
    simpa using h
  have i9 : In w.heap.size w (((w_3.setCell ⟨b_R, 0, none⟩ (.int .i64 (a + n))).setCell ⟨b_R, 1, none⟩ (.int .i64 b)).setCell ⟨b_R, 2, none⟩ (.int .i64 c)) := (In.set_ (In.set_ (In.set_ i_3 (p := ⟨b_R, 0, none⟩) hwb_R _) (p := ⟨b_R, 1, none⟩) hwb_R _) (p := ⟨b_R, 2, none⟩) hwb_R _)
  have HK0 : Hid ((_ : World).cell? ⟨b_R, 0, none⟩ = some (.int .i64 (a + n))) := Lib.hid (kk.cell 0)
  have HK1 : Hid ((_ : World).cell? ⟨b_R, 1, none⟩ = some (.int .i64 b)) := Lib.hid (kk.cell 1)
  have HK2 : Hid ((_ : World).cell? ⟨b_R, 2, none⟩ = some (.int .i64 c)) := Lib.hid (kk.cell 2)
  clear kk
  go_wp2_with (first | (go_at_call 49; refine (sIn _ _ _ _).mono ?_; rintro e w' ⟨rfl, rfl⟩) | (go_at_call 83; refine (iIn _ _ _ _).mono ?_; rintro e w' ⟨rfl, rfl⟩))
  have hk0 := HK0.out
  have hk1 := HK1.out
  have hk2 := HK2.out
  exact bodyPost_ret (v := .tuple #[.agg #[.int .i64 (a + n), .int .i64 b, .int .i64 c], .int .i64 n, .int .i64 0, .int .i64 0, .bool true]) (by simp [results, Try.results97, go_sem, hk0, hk1, hk2]) rfl (Val.mk' (by rw [HV.out]; rfl) i9)
set_option maxHeartbeats 4000000 in
theorem iEv2 (a b c n : Int) (w : World) (h1 : rackB a b c = true) (h2 : inB n 0 1000 = true) : Calls Try.prog 97 #[.agg #[.int .i64 a, .int .i64 b, .int .i64 c], .agg #[.int .i64 2, .int .i64 n]] w (Val (evT (evR a b c 2 n)) w) := by
  obtain ⟨b_A, hbx_A⟩ : ∃ b, b = w.heap.size := ⟨_, rfl⟩
  have kk_A : Blk (((w.alloc (.cells #[.int .i64 a, .int .i64 b, .int .i64 c] 41)).alloc (.cells #[.int .i64 2, .int .i64 n] 78)).alloc (.cells #[.int .i64 0, .int .i64 0, .int .i64 0] 41)) b_A 41 #[.int .i64 a, .int .i64 b, .int .i64 c] := (((Blk.new' (w := w) (t := 41) (cs := #[.int .i64 a, .int .i64 b, .int .i64 c]) (g := b_A) (by simp [hbx_A])).alloc (.cells #[.int .i64 2, .int .i64 n] 78)).alloc (.cells #[.int .i64 0, .int .i64 0, .int .i64 0] 41))
  have hwb_A : w.heap.size ≤ b_A := by omega
  obtain ⟨b_E, hbx_E⟩ : ∃ b, b = w.heap.size + 1 := ⟨_, rfl⟩
  have kk_E : Blk (((w.alloc (.cells #[.int .i64 a, .int .i64 b, .int .i64 c] 41)).alloc (.cells #[.int .i64 2, .int .i64 n] 78)).alloc (.cells #[.int .i64 0, .int .i64 0, .int .i64 0] 41)) b_E 78 #[.int .i64 2, .int .i64 n] := ((Blk.new' (w := (w.alloc (.cells #[.int .i64 a, .int .i64 b, .int .i64 c] 41))) (t := 78) (cs := #[.int .i64 2, .int .i64 n]) (g := b_E) (by simp [hbx_E])).alloc (.cells #[.int .i64 0, .int .i64 0, .int .i64 0] 41))
  have hwb_E : w.heap.size ≤ b_E := by omega
  obtain ⟨b_R, hbx_R⟩ : ∃ b, b = w.heap.size + 1 + 1 := ⟨_, rfl⟩
  have kk_R : Blk (((w.alloc (.cells #[.int .i64 a, .int .i64 b, .int .i64 c] 41)).alloc (.cells #[.int .i64 2, .int .i64 n] 78)).alloc (.cells #[.int .i64 0, .int .i64 0, .int .i64 0] 41)) b_R 41 #[.int .i64 0, .int .i64 0, .int .i64 0] := (Blk.new' (w := ((w.alloc (.cells #[.int .i64 a, .int .i64 b, .int .i64 c] 41)).alloc (.cells #[.int .i64 2, .int .i64 n] 78))) (t := 41) (cs := #[.int .i64 0, .int .i64 0, .int .i64 0]) (g := b_R) (by simp [hbx_R]))
  have hwb_R : w.heap.size ≤ b_R := by omega
  have NB_A_E : Hid (b_A ≠ b_E) := Lib.hid (by omega)
  have NB_A_R : Hid (b_A ≠ b_R) := Lib.hid (by omega)
  have NB_E_R : Hid (b_E ≠ b_R) := Lib.hid (by omega)
  have hb_0 : Below w.heap.size w (((w.alloc (.cells #[.int .i64 a, .int .i64 b, .int .i64 c] 41)).alloc (.cells #[.int .i64 2, .int .i64 n] 78)).alloc (.cells #[.int .i64 0, .int .i64 0, .int .i64 0] 41)) := by
    have h : In w.heap.size w (((w.alloc (.cells #[.int .i64 a, .int .i64 b, .int .i64 c] 41)).alloc (.cells #[.int .i64 2, .int .i64 n] 78)).alloc (.cells #[.int .i64 0, .int .i64 0, .int .i64 0] 41)) := by (repeat (first | exact In.refl _ | assumption | apply In.alloc | apply In.drewN | apply In.drew | (refine In.step ?_ (by assumption))))
    exact h.below
  go_enter Try.func97, Try.ntmps97
  go_wp2_with fail
  rw [← hbx_R]
  clear hbx_R
  rw [← hbx_E]
  clear hbx_E
  rw [← hbx_A]
  clear hbx_A
  generalize (((w.alloc (.cells #[.int .i64 a, .int .i64 b, .int .i64 c] 41)).alloc (.cells #[.int .i64 2, .int .i64 n] 78)).alloc (.cells #[.int .i64 0, .int .i64 0, .int .i64 0] 41)) = w_0 at *
  have i_0 : In w.heap.size w w_0 := In.step (by (repeat (first | exact In.refl _ | assumption | apply In.alloc | apply In.drewN | apply In.drew | (refine In.step ?_ (by assumption))))) hb_0
  have k_0_A : Blk w_0 b_A 41 #[.int .i64 a, .int .i64 b, .int .i64 c] := kk_A
  obtain ⟨c_0_A_0, c_0_A_1, c_0_A_2⟩ := cells3 k_0_A
  have l_0_A := k_0_A.lt
  have k_0_E : Blk w_0 b_E 78 #[.int .i64 2, .int .i64 n] := kk_E
  obtain ⟨c_0_E_0, c_0_E_1⟩ := cells2 k_0_E
  have l_0_E := k_0_E.lt
  have k_0_R : Blk w_0 b_R 41 #[.int .i64 0, .int .i64 0, .int .i64 0] := kk_R
  obtain ⟨c_0_R_0, c_0_R_1, c_0_R_2⟩ := cells3 k_0_R
  have l_0_R := k_0_R.lt
  have z_0_R_0 := k_0_R.frozen 0
  have z_0_R_1 := k_0_R.frozen 1
  have z_0_R_2 := k_0_R.frozen 2
  clear kk_A kk_E kk_R
  go_wp2_with fail
  refine (iRackOk a b c _).mono ?_
  rintro _ w_1 ⟨rfl, hb_1⟩
  rw [h1]
  have i_1 : In w.heap.size w w_1 := In.step (by (repeat (first | exact In.refl _ | assumption | apply In.alloc | apply In.drewN | apply In.drew | (refine In.step ?_ (by assumption))))) hb_1
  have k_1_A : Blk w_1 b_A 41 #[.int .i64 a, .int .i64 b, .int .i64 c] := Blk.step (by (with_reducible (repeat (first | assumption | exact Blk.new' (by simp) | apply Blk.drewN | apply Blk.drew | apply Blk.alloc | (refine Blk.far ?_ (by (try simp) <;> omega) _))))) hb_1
  obtain ⟨c_1_A_0, c_1_A_1, c_1_A_2⟩ := cells3 k_1_A
  have l_1_A := k_1_A.lt
  have k_1_E : Blk w_1 b_E 78 #[.int .i64 2, .int .i64 n] := Blk.step (by (with_reducible (repeat (first | assumption | exact Blk.new' (by simp) | apply Blk.drewN | apply Blk.drew | apply Blk.alloc | (refine Blk.far ?_ (by (try simp) <;> omega) _))))) hb_1
  obtain ⟨c_1_E_0, c_1_E_1⟩ := cells2 k_1_E
  have l_1_E := k_1_E.lt
  have k_1_R : Blk w_1 b_R 41 #[.int .i64 0, .int .i64 0, .int .i64 0] := Blk.step (by (with_reducible (repeat (first | assumption | exact Blk.new' (by simp) | apply Blk.drewN | apply Blk.drew | apply Blk.alloc | (refine Blk.far ?_ (by (try simp) <;> omega) _))))) hb_1
  obtain ⟨c_1_R_0, c_1_R_1, c_1_R_2⟩ := cells3 k_1_R
  have l_1_R := k_1_R.lt
  have z_1_R_0 := k_1_R.frozen 0
  have z_1_R_1 := k_1_R.frozen 1
  have z_1_R_2 := k_1_R.frozen 2
  clear i_0 k_0_A c_0_A_0 c_0_A_1 c_0_A_2 l_0_A k_0_E c_0_E_0 c_0_E_1 l_0_E k_0_R c_0_R_0 c_0_R_1 c_0_R_2 l_0_R z_0_R_0 z_0_R_1 z_0_R_2 hb_0
  obtain ⟨r1, r2, r3, r4, r5, r6⟩ := rack_in h1
  obtain ⟨n1, n2⟩ := inB_tt h2
  have hsb : sellB a b c n = true := by simp [sellB, h1, inB]; omega
  go_wp2_with (first | (go_at_call 49; refine (sIn _ _ _ _).mono ?_; rintro e w' ⟨rfl, rfl⟩) | (go_at_call 83; refine (iIn _ _ _ _).mono ?_; rintro e w' ⟨rfl, rfl⟩))
  obtain ⟨b_N, hbx_N⟩ : ∃ b, b = w_1.heap.size := ⟨_, rfl⟩
  rw [← hbx_N]
  have hwb_N : w.heap.size ≤ b_N := by have h := In.size i_1; omega
  have NB_A_N : Hid (b_A ≠ b_N) := Lib.hid (by have h := k_1_A.lt; omega)
  have NB_E_N : Hid (b_E ≠ b_N) := Lib.hid (by have h := k_1_E.lt; omega)
  have NB_R_N : Hid (b_R ≠ b_N) := Lib.hid (by have h := k_1_R.lt; omega)
  have hb_2 : Below w_1.heap.size w_1 (w_1.alloc (.cells #[.int .i64 a, .int .i64 b, .int .i64 c] 41)) := (Below.refl _ _).alloc (Nat.le_refl _) _
  have kk_2 : Blk (w_1.alloc (.cells #[.int .i64 a, .int .i64 b, .int .i64 c] 41)) b_N 41 #[.int .i64 a, .int .i64 b, .int .i64 c] := Blk.new' hbx_N
  clear hbx_N
  generalize (w_1.alloc (.cells #[.int .i64 a, .int .i64 b, .int .i64 c] 41)) = w_2 at *
  have i_2 : In w.heap.size w w_2 := In.step (by (repeat (first | exact In.refl _ | assumption | apply In.alloc | apply In.drewN | apply In.drew | (refine In.step ?_ (by assumption))))) hb_2
  have k_2_A : Blk w_2 b_A 41 #[.int .i64 a, .int .i64 b, .int .i64 c] := Blk.step (by (with_reducible (repeat (first | assumption | exact Blk.new' (by simp) | apply Blk.drewN | apply Blk.drew | apply Blk.alloc | (refine Blk.far ?_ (by (try simp) <;> omega) _))))) hb_2
  obtain ⟨c_2_A_0, c_2_A_1, c_2_A_2⟩ := cells3 k_2_A
  have l_2_A := k_2_A.lt
  have k_2_E : Blk w_2 b_E 78 #[.int .i64 2, .int .i64 n] := Blk.step (by (with_reducible (repeat (first | assumption | exact Blk.new' (by simp) | apply Blk.drewN | apply Blk.drew | apply Blk.alloc | (refine Blk.far ?_ (by (try simp) <;> omega) _))))) hb_2
  obtain ⟨c_2_E_0, c_2_E_1⟩ := cells2 k_2_E
  have l_2_E := k_2_E.lt
  have k_2_R : Blk w_2 b_R 41 #[.int .i64 0, .int .i64 0, .int .i64 0] := Blk.step (by (with_reducible (repeat (first | assumption | exact Blk.new' (by simp) | apply Blk.drewN | apply Blk.drew | apply Blk.alloc | (refine Blk.far ?_ (by (try simp) <;> omega) _))))) hb_2
  obtain ⟨c_2_R_0, c_2_R_1, c_2_R_2⟩ := cells3 k_2_R
  have l_2_R := k_2_R.lt
  have z_2_R_0 := k_2_R.frozen 0
  have z_2_R_1 := k_2_R.frozen 1
  have z_2_R_2 := k_2_R.frozen 2
  have k_2_N : Blk w_2 b_N 41 #[.int .i64 a, .int .i64 b, .int .i64 c] := kk_2
  obtain ⟨c_2_N_0, c_2_N_1, c_2_N_2⟩ := cells3 k_2_N
  have l_2_N := k_2_N.lt
  have z_2_N_0 := k_2_N.frozen 0
  have z_2_N_1 := k_2_N.frozen 1
  have z_2_N_2 := k_2_N.frozen 2
  clear i_1 k_1_A c_1_A_0 c_1_A_1 c_1_A_2 l_1_A k_1_E c_1_E_0 c_1_E_1 l_1_E k_1_R c_1_R_0 c_1_R_1 c_1_R_2 l_1_R z_1_R_0 z_1_R_1 z_1_R_2 hb_1
  clear kk_2
  have hfv : freshV a b c n = .tuple #[.agg #[.int .i64 (a - min n a), .int .i64 (b - min (n - min n a) b), .int .i64 c], .int .i64 (min n a + min (n - min n a) b)] := by simp [freshV, hsb]
  go_wp2_with (first | (go_at_call 49; refine (sIn _ _ _ _).mono ?_; rintro e w' ⟨rfl, rfl⟩) | (go_at_call 83; refine (iIn _ _ _ _).mono ?_; rintro e w' ⟨rfl, rfl⟩))
  refine (iSellFresh a b c n _).mono ?_
  rintro _ w_3 ⟨rfl, hb_3⟩
  rw [hfv]
  clear hfv
  have i_3 : In w.heap.size w w_3 := In.step (by (repeat (first | exact In.refl _ | assumption | apply In.alloc | apply In.drewN | apply In.drew | (refine In.step ?_ (by assumption))))) hb_3
  have k_3_A : Blk w_3 b_A 41 #[.int .i64 a, .int .i64 b, .int .i64 c] := Blk.step (by (with_reducible (repeat (first | assumption | exact Blk.new' (by simp) | apply Blk.drewN | apply Blk.drew | apply Blk.alloc | (refine Blk.far ?_ (by (try simp) <;> omega) _))))) hb_3
  obtain ⟨c_3_A_0, c_3_A_1, c_3_A_2⟩ := cells3 k_3_A
  have l_3_A := k_3_A.lt
  have k_3_E : Blk w_3 b_E 78 #[.int .i64 2, .int .i64 n] := Blk.step (by (with_reducible (repeat (first | assumption | exact Blk.new' (by simp) | apply Blk.drewN | apply Blk.drew | apply Blk.alloc | (refine Blk.far ?_ (by (try simp) <;> omega) _))))) hb_3
  obtain ⟨c_3_E_0, c_3_E_1⟩ := cells2 k_3_E
  have l_3_E := k_3_E.lt
  have k_3_R : Blk w_3 b_R 41 #[.int .i64 0, .int .i64 0, .int .i64 0] := Blk.step (by (with_reducible (repeat (first | assumption | exact Blk.new' (by simp) | apply Blk.drewN | apply Blk.drew | apply Blk.alloc | (refine Blk.far ?_ (by (try simp) <;> omega) _))))) hb_3
  obtain ⟨c_3_R_0, c_3_R_1, c_3_R_2⟩ := cells3 k_3_R
  have l_3_R := k_3_R.lt
  have z_3_R_0 := k_3_R.frozen 0
  have z_3_R_1 := k_3_R.frozen 1
  have z_3_R_2 := k_3_R.frozen 2
  have k_3_N : Blk w_3 b_N 41 #[.int .i64 a, .int .i64 b, .int .i64 c] := Blk.step (by (with_reducible (repeat (first | assumption | exact Blk.new' (by simp) | apply Blk.drewN | apply Blk.drew | apply Blk.alloc | (refine Blk.far ?_ (by (try simp) <;> omega) _))))) hb_3
  obtain ⟨c_3_N_0, c_3_N_1, c_3_N_2⟩ := cells3 k_3_N
  have l_3_N := k_3_N.lt
  have z_3_N_0 := k_3_N.frozen 0
  have z_3_N_1 := k_3_N.frozen 1
  have z_3_N_2 := k_3_N.frozen 2
  clear i_2 k_2_A c_2_A_0 c_2_A_1 c_2_A_2 l_2_A k_2_E c_2_E_0 c_2_E_1 l_2_E k_2_R c_2_R_0 c_2_R_1 c_2_R_2 l_2_R z_2_R_0 z_2_R_1 z_2_R_2 k_2_N c_2_N_0 c_2_N_1 c_2_N_2 l_2_N z_2_N_0 z_2_N_1 z_2_N_2 hb_2
  have hrk : rackB (a - min n a) (b - min (n - min n a) b) (c) = true := rack_of (by omega)
  have hv1 : min n a + min (n - min n a) b = n → evR a b c 2 n = ⟨a - min n a, b - min (n - min n a) b, c, 0, n, 0, true⟩ := fun h => by simp [evR, h1, h2, h]
  have hv2 : ¬ min n a + min (n - min n a) b = n → evR a b c 2 n = ⟨a, b, c, 0, 0, 0, false⟩ := fun h => by simp [evR, h1, h2, h]
  generalize min n a + min (n - min n a) b = m at *
  generalize a - min n a = x at *
  generalize b - min (n - min n a) b = y at *
  by_cases hm : m = n
  · have HV := Lib.hid (hv1 hm)
    subst hm
    clear hv1 hv2
    have hn1_A : b_A ≠ b_N := by first | exact NB_A_N.out | exact NB_N_A.out.symm
    have hn2_A : b_N ≠ b_A := hn1_A.symm
    have hn1_E : b_E ≠ b_N := by first | exact NB_E_N.out | exact NB_N_E.out.symm
    have hn2_E : b_N ≠ b_E := hn1_E.symm
    have hn1_R : b_R ≠ b_N := by first | exact NB_R_N.out | exact NB_N_R.out.symm
    have hn2_R : b_N ≠ b_R := hn1_R.symm
    go_wp2_with (first | (go_at_call 49; refine (sIn _ _ _ _).mono ?_; rintro e w' ⟨rfl, rfl⟩) | (go_at_call 83; refine (iIn _ _ _ _).mono ?_; rintro e w' ⟨rfl, rfl⟩))
    have kk_4 : Blk (((w_3.setCell ⟨b_N, 0, none⟩ (.int .i64 x)).setCell ⟨b_N, 1, none⟩ (.int .i64 y)).setCell ⟨b_N, 2, none⟩ (.int .i64 c)) b_N 41 #[.int .i64 x, .int .i64 y, .int .i64 c] := by
      have h := (((k_3_N.set_ 0 (.int .i64 x)).set_ 1 (.int .i64 y)).set_ 2 (.int .i64 c))
      simpa using h
    have ii_4 : In w.heap.size w (((w_3.setCell ⟨b_N, 0, none⟩ (.int .i64 x)).setCell ⟨b_N, 1, none⟩ (.int .i64 y)).setCell ⟨b_N, 2, none⟩ (.int .i64 c)) := (In.set_ (In.set_ (In.set_ i_3 (p := ⟨b_N, 0, none⟩) hwb_N _) (p := ⟨b_N, 1, none⟩) hwb_N _) (p := ⟨b_N, 2, none⟩) hwb_N _)
    have kf_4_A : Blk (((w_3.setCell ⟨b_N, 0, none⟩ (.int .i64 x)).setCell ⟨b_N, 1, none⟩ (.int .i64 y)).setCell ⟨b_N, 2, none⟩ (.int .i64 c)) b_A 41 #[.int .i64 a, .int .i64 b, .int .i64 c] := (Blk.far (Blk.far (Blk.far k_3_A (p := ⟨b_N, 0, none⟩) (by first | exact NB_A_N.out | exact NB_N_A.out.symm) _) (p := ⟨b_N, 1, none⟩) (by first | exact NB_A_N.out | exact NB_N_A.out.symm) _) (p := ⟨b_N, 2, none⟩) (by first | exact NB_A_N.out | exact NB_N_A.out.symm) _)
    have kf_4_E : Blk (((w_3.setCell ⟨b_N, 0, none⟩ (.int .i64 x)).setCell ⟨b_N, 1, none⟩ (.int .i64 y)).setCell ⟨b_N, 2, none⟩ (.int .i64 c)) b_E 78 #[.int .i64 2, .int .i64 m] := (Blk.far (Blk.far (Blk.far k_3_E (p := ⟨b_N, 0, none⟩) (by first | exact NB_E_N.out | exact NB_N_E.out.symm) _) (p := ⟨b_N, 1, none⟩) (by first | exact NB_E_N.out | exact NB_N_E.out.symm) _) (p := ⟨b_N, 2, none⟩) (by first | exact NB_E_N.out | exact NB_N_E.out.symm) _)
    have kf_4_R : Blk (((w_3.setCell ⟨b_N, 0, none⟩ (.int .i64 x)).setCell ⟨b_N, 1, none⟩ (.int .i64 y)).setCell ⟨b_N, 2, none⟩ (.int .i64 c)) b_R 41 #[.int .i64 0, .int .i64 0, .int .i64 0] := (Blk.far (Blk.far (Blk.far k_3_R (p := ⟨b_N, 0, none⟩) (by first | exact NB_R_N.out | exact NB_N_R.out.symm) _) (p := ⟨b_N, 1, none⟩) (by first | exact NB_R_N.out | exact NB_N_R.out.symm) _) (p := ⟨b_N, 2, none⟩) (by first | exact NB_R_N.out | exact NB_N_R.out.symm) _)
    generalize (((w_3.setCell ⟨b_N, 0, none⟩ (.int .i64 x)).setCell ⟨b_N, 1, none⟩ (.int .i64 y)).setCell ⟨b_N, 2, none⟩ (.int .i64 c)) = w_4 at *
    clear hn1_A hn2_A
    clear hn1_E hn2_E
    clear hn1_R hn2_R
    have i_4 := ii_4
    clear ii_4
    have k_4_A := kf_4_A
    clear kf_4_A
    have c_4_A_0 : w_4.cell? ⟨b_A, 0, none⟩ = some (.int .i64 a) := k_4_A.cell 0
    have c_4_A_1 : w_4.cell? ⟨b_A, 1, none⟩ = some (.int .i64 b) := k_4_A.cell 1
    have c_4_A_2 : w_4.cell? ⟨b_A, 2, none⟩ = some (.int .i64 c) := k_4_A.cell 2
    have l_4_A := k_4_A.lt
    have k_4_E := kf_4_E
    clear kf_4_E
    have c_4_E_0 : w_4.cell? ⟨b_E, 0, none⟩ = some (.int .i64 2) := k_4_E.cell 0
    have c_4_E_1 : w_4.cell? ⟨b_E, 1, none⟩ = some (.int .i64 m) := k_4_E.cell 1
    have l_4_E := k_4_E.lt
    have k_4_R := kf_4_R
    clear kf_4_R
    have c_4_R_0 : w_4.cell? ⟨b_R, 0, none⟩ = some (.int .i64 0) := k_4_R.cell 0
    have c_4_R_1 : w_4.cell? ⟨b_R, 1, none⟩ = some (.int .i64 0) := k_4_R.cell 1
    have c_4_R_2 : w_4.cell? ⟨b_R, 2, none⟩ = some (.int .i64 0) := k_4_R.cell 2
    have l_4_R := k_4_R.lt
    have z_4_R_0 := k_4_R.frozen 0
    have z_4_R_1 := k_4_R.frozen 1
    have z_4_R_2 := k_4_R.frozen 2
    have k_4_N := kk_4
    clear kk_4
    have c_4_N_0 : w_4.cell? ⟨b_N, 0, none⟩ = some (.int .i64 x) := k_4_N.cell 0
    have c_4_N_1 : w_4.cell? ⟨b_N, 1, none⟩ = some (.int .i64 y) := k_4_N.cell 1
    have c_4_N_2 : w_4.cell? ⟨b_N, 2, none⟩ = some (.int .i64 c) := k_4_N.cell 2
    have l_4_N := k_4_N.lt
    have z_4_N_0 := k_4_N.frozen 0
    have z_4_N_1 := k_4_N.frozen 1
    have z_4_N_2 := k_4_N.frozen 2
    clear i_3 k_3_A c_3_A_0 c_3_A_1 c_3_A_2 l_3_A k_3_E c_3_E_0 c_3_E_1 l_3_E k_3_R c_3_R_0 c_3_R_1 c_3_R_2 l_3_R z_3_R_0 z_3_R_1 z_3_R_2 k_3_N c_3_N_0 c_3_N_1 c_3_N_2 l_3_N z_3_N_0 z_3_N_1 z_3_N_2 hb_3
    skip
    refine (iRackOk x y c _).mono ?_
    rintro _ w_5 ⟨rfl, hb_5⟩
    rw [hrk]
    have i_5 : In w.heap.size w w_5 := In.step (by (repeat (first | exact In.refl _ | assumption | apply In.alloc | apply In.drewN | apply In.drew | (refine In.step ?_ (by assumption))))) hb_5
    have k_5_A : Blk w_5 b_A 41 #[.int .i64 a, .int .i64 b, .int .i64 c] := Blk.step (by (with_reducible (repeat (first | assumption | exact Blk.new' (by simp) | apply Blk.drewN | apply Blk.drew | apply Blk.alloc | (refine Blk.far ?_ (by (try simp) <;> omega) _))))) hb_5
    obtain ⟨c_5_A_0, c_5_A_1, c_5_A_2⟩ := cells3 k_5_A
    have l_5_A := k_5_A.lt
    have k_5_E : Blk w_5 b_E 78 #[.int .i64 2, .int .i64 m] := Blk.step (by (with_reducible (repeat (first | assumption | exact Blk.new' (by simp) | apply Blk.drewN | apply Blk.drew | apply Blk.alloc | (refine Blk.far ?_ (by (try simp) <;> omega) _))))) hb_5
    obtain ⟨c_5_E_0, c_5_E_1⟩ := cells2 k_5_E
    have l_5_E := k_5_E.lt
    have k_5_R : Blk w_5 b_R 41 #[.int .i64 0, .int .i64 0, .int .i64 0] := Blk.step (by (with_reducible (repeat (first | assumption | exact Blk.new' (by simp) | apply Blk.drewN | apply Blk.drew | apply Blk.alloc | (refine Blk.far ?_ (by (try simp) <;> omega) _))))) hb_5
    obtain ⟨c_5_R_0, c_5_R_1, c_5_R_2⟩ := cells3 k_5_R
    have l_5_R := k_5_R.lt
    have z_5_R_0 := k_5_R.frozen 0
    have z_5_R_1 := k_5_R.frozen 1
    have z_5_R_2 := k_5_R.frozen 2
    have k_5_N : Blk w_5 b_N 41 #[.int .i64 x, .int .i64 y, .int .i64 c] := Blk.step (by (with_reducible (repeat (first | assumption | exact Blk.new' (by simp) | apply Blk.drewN | apply Blk.drew | apply Blk.alloc | (refine Blk.far ?_ (by (try simp) <;> omega) _))))) hb_5
    obtain ⟨c_5_N_0, c_5_N_1, c_5_N_2⟩ := cells3 k_5_N
    have l_5_N := k_5_N.lt
    have z_5_N_0 := k_5_N.frozen 0
    have z_5_N_1 := k_5_N.frozen 1
    have z_5_N_2 := k_5_N.frozen 2
    clear i_4 k_4_A c_4_A_0 c_4_A_1 c_4_A_2 l_4_A k_4_E c_4_E_0 c_4_E_1 l_4_E k_4_R c_4_R_0 c_4_R_1 c_4_R_2 l_4_R z_4_R_0 z_4_R_1 z_4_R_2 k_4_N c_4_N_0 c_4_N_1 c_4_N_2 l_4_N z_4_N_0 z_4_N_1 z_4_N_2
    have kk : Blk (((w_5.setCell ⟨b_R, 0, none⟩ (.int .i64 x)).setCell ⟨b_R, 1, none⟩ (.int .i64 y)).setCell ⟨b_R, 2, none⟩ (.int .i64 c)) b_R 41 #[.int .i64 x, .int .i64 y, .int .i64 c] := by
      have h := (((k_5_R.set_ 0 (.int .i64 x)).set_ 1 (.int .i64 y)).set_ 2 (.int .i64 c))
      simpa using h
    have i9 : In w.heap.size w (((w_5.setCell ⟨b_R, 0, none⟩ (.int .i64 x)).setCell ⟨b_R, 1, none⟩ (.int .i64 y)).setCell ⟨b_R, 2, none⟩ (.int .i64 c)) := (In.set_ (In.set_ (In.set_ i_5 (p := ⟨b_R, 0, none⟩) hwb_R _) (p := ⟨b_R, 1, none⟩) hwb_R _) (p := ⟨b_R, 2, none⟩) hwb_R _)
    have HK0 : Hid ((_ : World).cell? ⟨b_R, 0, none⟩ = some (.int .i64 x)) := Lib.hid (kk.cell 0)
    have HK1 : Hid ((_ : World).cell? ⟨b_R, 1, none⟩ = some (.int .i64 y)) := Lib.hid (kk.cell 1)
    have HK2 : Hid ((_ : World).cell? ⟨b_R, 2, none⟩ = some (.int .i64 c)) := Lib.hid (kk.cell 2)
    clear kk
    go_wp2_with (first | (go_at_call 49; refine (sIn _ _ _ _).mono ?_; rintro e w' ⟨rfl, rfl⟩) | (go_at_call 83; refine (iIn _ _ _ _).mono ?_; rintro e w' ⟨rfl, rfl⟩))
    have hk0 := HK0.out
    have hk1 := HK1.out
    have hk2 := HK2.out
    exact bodyPost_ret (v := .tuple #[.agg #[.int .i64 x, .int .i64 y, .int .i64 c], .int .i64 0, .int .i64 m, .int .i64 0, .bool true]) (by simp [results, Try.results97, go_sem, hk0, hk1, hk2]) rfl (Val.mk' (by rw [HV.out]; rfl) i9)
  · have HV := Lib.hid (hv2 hm)
    have hmb : (m == n) = false := by simpa using hm
    clear hv1 hv2
    have hn1_A : b_A ≠ b_N := by first | exact NB_A_N.out | exact NB_N_A.out.symm
    have hn2_A : b_N ≠ b_A := hn1_A.symm
    have hn1_E : b_E ≠ b_N := by first | exact NB_E_N.out | exact NB_N_E.out.symm
    have hn2_E : b_N ≠ b_E := hn1_E.symm
    have hn1_R : b_R ≠ b_N := by first | exact NB_R_N.out | exact NB_N_R.out.symm
    have hn2_R : b_N ≠ b_R := hn1_R.symm
    have kk : Blk ((((((w_3.setCell ⟨b_N, 0, none⟩ (.int .i64 x)).setCell ⟨b_N, 1, none⟩ (.int .i64 y)).setCell ⟨b_N, 2, none⟩ (.int .i64 c)).setCell ⟨b_R, 0, none⟩ (.int .i64 a)).setCell ⟨b_R, 1, none⟩ (.int .i64 b)).setCell ⟨b_R, 2, none⟩ (.int .i64 c)) b_R 41 #[.int .i64 a, .int .i64 b, .int .i64 c] := by
      have h := ((((Blk.far (Blk.far (Blk.far k_3_R (p := ⟨b_N, 0, none⟩) (by first | exact NB_R_N.out | exact NB_N_R.out.symm) (.int .i64 x)) (p := ⟨b_N, 1, none⟩) (by first | exact NB_R_N.out | exact NB_N_R.out.symm) (.int .i64 y)) (p := ⟨b_N, 2, none⟩) (by first | exact NB_R_N.out | exact NB_N_R.out.symm) (.int .i64 c)).set_ 0 (.int .i64 a)).set_ 1 (.int .i64 b)).set_ 2 (.int .i64 c))
      simpa using h
    have i9 : In w.heap.size w ((((((w_3.setCell ⟨b_N, 0, none⟩ (.int .i64 x)).setCell ⟨b_N, 1, none⟩ (.int .i64 y)).setCell ⟨b_N, 2, none⟩ (.int .i64 c)).setCell ⟨b_R, 0, none⟩ (.int .i64 a)).setCell ⟨b_R, 1, none⟩ (.int .i64 b)).setCell ⟨b_R, 2, none⟩ (.int .i64 c)) := (In.set_ (In.set_ (In.set_ (In.set_ (In.set_ (In.set_ i_3 (p := ⟨b_N, 0, none⟩) hwb_N _) (p := ⟨b_N, 1, none⟩) hwb_N _) (p := ⟨b_N, 2, none⟩) hwb_N _) (p := ⟨b_R, 0, none⟩) hwb_R _) (p := ⟨b_R, 1, none⟩) hwb_R _) (p := ⟨b_R, 2, none⟩) hwb_R _)
    have HK0 : Hid ((_ : World).cell? ⟨b_R, 0, none⟩ = some (.int .i64 a)) := Lib.hid (kk.cell 0)
    have HK1 : Hid ((_ : World).cell? ⟨b_R, 1, none⟩ = some (.int .i64 b)) := Lib.hid (kk.cell 1)
    have HK2 : Hid ((_ : World).cell? ⟨b_R, 2, none⟩ = some (.int .i64 c)) := Lib.hid (kk.cell 2)
    clear kk
    go_wp2_with (first | (go_at_call 49; refine (sIn _ _ _ _).mono ?_; rintro e w' ⟨rfl, rfl⟩) | (go_at_call 83; refine (iIn _ _ _ _).mono ?_; rintro e w' ⟨rfl, rfl⟩))
    have hk0 := HK0.out
    have hk1 := HK1.out
    have hk2 := HK2.out
    exact bodyPost_ret (v := .tuple #[.agg #[.int .i64 a, .int .i64 b, .int .i64 c], .int .i64 0, .int .i64 0, .int .i64 0, .bool false]) (by simp [results, Try.results97, go_sem, hk0, hk1, hk2]) rfl (Val.mk' (by rw [HV.out]; rfl) i9)
set_option maxHeartbeats 4000000 in
theorem iEv3 (a b c n : Int) (w : World) (h1 : rackB a b c = true) (h2 : inB n 0 1000 = true) : Calls Try.prog 97 #[.agg #[.int .i64 a, .int .i64 b, .int .i64 c], .agg #[.int .i64 3, .int .i64 n]] w (Val (evT (evR a b c 3 n)) w) := by
  obtain ⟨b_A, hbx_A⟩ : ∃ b, b = w.heap.size := ⟨_, rfl⟩
  have kk_A : Blk (((w.alloc (.cells #[.int .i64 a, .int .i64 b, .int .i64 c] 41)).alloc (.cells #[.int .i64 3, .int .i64 n] 78)).alloc (.cells #[.int .i64 0, .int .i64 0, .int .i64 0] 41)) b_A 41 #[.int .i64 a, .int .i64 b, .int .i64 c] := (((Blk.new' (w := w) (t := 41) (cs := #[.int .i64 a, .int .i64 b, .int .i64 c]) (g := b_A) (by simp [hbx_A])).alloc (.cells #[.int .i64 3, .int .i64 n] 78)).alloc (.cells #[.int .i64 0, .int .i64 0, .int .i64 0] 41))
  have hwb_A : w.heap.size ≤ b_A := by omega
  obtain ⟨b_E, hbx_E⟩ : ∃ b, b = w.heap.size + 1 := ⟨_, rfl⟩
  have kk_E : Blk (((w.alloc (.cells #[.int .i64 a, .int .i64 b, .int .i64 c] 41)).alloc (.cells #[.int .i64 3, .int .i64 n] 78)).alloc (.cells #[.int .i64 0, .int .i64 0, .int .i64 0] 41)) b_E 78 #[.int .i64 3, .int .i64 n] := ((Blk.new' (w := (w.alloc (.cells #[.int .i64 a, .int .i64 b, .int .i64 c] 41))) (t := 78) (cs := #[.int .i64 3, .int .i64 n]) (g := b_E) (by simp [hbx_E])).alloc (.cells #[.int .i64 0, .int .i64 0, .int .i64 0] 41))
  have hwb_E : w.heap.size ≤ b_E := by omega
  obtain ⟨b_R, hbx_R⟩ : ∃ b, b = w.heap.size + 1 + 1 := ⟨_, rfl⟩
  have kk_R : Blk (((w.alloc (.cells #[.int .i64 a, .int .i64 b, .int .i64 c] 41)).alloc (.cells #[.int .i64 3, .int .i64 n] 78)).alloc (.cells #[.int .i64 0, .int .i64 0, .int .i64 0] 41)) b_R 41 #[.int .i64 0, .int .i64 0, .int .i64 0] := (Blk.new' (w := ((w.alloc (.cells #[.int .i64 a, .int .i64 b, .int .i64 c] 41)).alloc (.cells #[.int .i64 3, .int .i64 n] 78))) (t := 41) (cs := #[.int .i64 0, .int .i64 0, .int .i64 0]) (g := b_R) (by simp [hbx_R]))
  have hwb_R : w.heap.size ≤ b_R := by omega
  have NB_A_E : Hid (b_A ≠ b_E) := Lib.hid (by omega)
  have NB_A_R : Hid (b_A ≠ b_R) := Lib.hid (by omega)
  have NB_E_R : Hid (b_E ≠ b_R) := Lib.hid (by omega)
  have hb_0 : Below w.heap.size w (((w.alloc (.cells #[.int .i64 a, .int .i64 b, .int .i64 c] 41)).alloc (.cells #[.int .i64 3, .int .i64 n] 78)).alloc (.cells #[.int .i64 0, .int .i64 0, .int .i64 0] 41)) := by
    have h : In w.heap.size w (((w.alloc (.cells #[.int .i64 a, .int .i64 b, .int .i64 c] 41)).alloc (.cells #[.int .i64 3, .int .i64 n] 78)).alloc (.cells #[.int .i64 0, .int .i64 0, .int .i64 0] 41)) := by (repeat (first | exact In.refl _ | assumption | apply In.alloc | apply In.drewN | apply In.drew | (refine In.step ?_ (by assumption))))
    exact h.below
  go_enter Try.func97, Try.ntmps97
  go_wp2_with fail
  rw [← hbx_R]
  clear hbx_R
  rw [← hbx_E]
  clear hbx_E
  rw [← hbx_A]
  clear hbx_A
  generalize (((w.alloc (.cells #[.int .i64 a, .int .i64 b, .int .i64 c] 41)).alloc (.cells #[.int .i64 3, .int .i64 n] 78)).alloc (.cells #[.int .i64 0, .int .i64 0, .int .i64 0] 41)) = w_0 at *
  have i_0 : In w.heap.size w w_0 := In.step (by (repeat (first | exact In.refl _ | assumption | apply In.alloc | apply In.drewN | apply In.drew | (refine In.step ?_ (by assumption))))) hb_0
  have k_0_A : Blk w_0 b_A 41 #[.int .i64 a, .int .i64 b, .int .i64 c] := kk_A
  obtain ⟨c_0_A_0, c_0_A_1, c_0_A_2⟩ := cells3 k_0_A
  have l_0_A := k_0_A.lt
  have k_0_E : Blk w_0 b_E 78 #[.int .i64 3, .int .i64 n] := kk_E
  obtain ⟨c_0_E_0, c_0_E_1⟩ := cells2 k_0_E
  have l_0_E := k_0_E.lt
  have k_0_R : Blk w_0 b_R 41 #[.int .i64 0, .int .i64 0, .int .i64 0] := kk_R
  obtain ⟨c_0_R_0, c_0_R_1, c_0_R_2⟩ := cells3 k_0_R
  have l_0_R := k_0_R.lt
  have z_0_R_0 := k_0_R.frozen 0
  have z_0_R_1 := k_0_R.frozen 1
  have z_0_R_2 := k_0_R.frozen 2
  clear kk_A kk_E kk_R
  go_wp2_with fail
  refine (iRackOk a b c _).mono ?_
  rintro _ w_1 ⟨rfl, hb_1⟩
  rw [h1]
  have i_1 : In w.heap.size w w_1 := In.step (by (repeat (first | exact In.refl _ | assumption | apply In.alloc | apply In.drewN | apply In.drew | (refine In.step ?_ (by assumption))))) hb_1
  have k_1_A : Blk w_1 b_A 41 #[.int .i64 a, .int .i64 b, .int .i64 c] := Blk.step (by (with_reducible (repeat (first | assumption | exact Blk.new' (by simp) | apply Blk.drewN | apply Blk.drew | apply Blk.alloc | (refine Blk.far ?_ (by (try simp) <;> omega) _))))) hb_1
  obtain ⟨c_1_A_0, c_1_A_1, c_1_A_2⟩ := cells3 k_1_A
  have l_1_A := k_1_A.lt
  have k_1_E : Blk w_1 b_E 78 #[.int .i64 3, .int .i64 n] := Blk.step (by (with_reducible (repeat (first | assumption | exact Blk.new' (by simp) | apply Blk.drewN | apply Blk.drew | apply Blk.alloc | (refine Blk.far ?_ (by (try simp) <;> omega) _))))) hb_1
  obtain ⟨c_1_E_0, c_1_E_1⟩ := cells2 k_1_E
  have l_1_E := k_1_E.lt
  have k_1_R : Blk w_1 b_R 41 #[.int .i64 0, .int .i64 0, .int .i64 0] := Blk.step (by (with_reducible (repeat (first | assumption | exact Blk.new' (by simp) | apply Blk.drewN | apply Blk.drew | apply Blk.alloc | (refine Blk.far ?_ (by (try simp) <;> omega) _))))) hb_1
  obtain ⟨c_1_R_0, c_1_R_1, c_1_R_2⟩ := cells3 k_1_R
  have l_1_R := k_1_R.lt
  have z_1_R_0 := k_1_R.frozen 0
  have z_1_R_1 := k_1_R.frozen 1
  have z_1_R_2 := k_1_R.frozen 2
  clear i_0 k_0_A c_0_A_0 c_0_A_1 c_0_A_2 l_0_A k_0_E c_0_E_0 c_0_E_1 l_0_E k_0_R c_0_R_0 c_0_R_1 c_0_R_2 l_0_R z_0_R_0 z_0_R_1 z_0_R_2 hb_0
  obtain ⟨r1, r2, r3, r4, r5, r6⟩ := rack_in h1
  obtain ⟨n1, n2⟩ := inB_tt h2
  have hsb : sellB a b c n = true := by simp [sellB, h1, inB]; omega
  go_wp2_with (first | (go_at_call 49; refine (sIn _ _ _ _).mono ?_; rintro e w' ⟨rfl, rfl⟩) | (go_at_call 83; refine (iIn _ _ _ _).mono ?_; rintro e w' ⟨rfl, rfl⟩))
  obtain ⟨b_N, hbx_N⟩ : ∃ b, b = w_1.heap.size := ⟨_, rfl⟩
  rw [← hbx_N]
  have hwb_N : w.heap.size ≤ b_N := by have h := In.size i_1; omega
  have NB_A_N : Hid (b_A ≠ b_N) := Lib.hid (by have h := k_1_A.lt; omega)
  have NB_E_N : Hid (b_E ≠ b_N) := Lib.hid (by have h := k_1_E.lt; omega)
  have NB_R_N : Hid (b_R ≠ b_N) := Lib.hid (by have h := k_1_R.lt; omega)
  have hb_2 : Below w_1.heap.size w_1 (w_1.alloc (.cells #[.int .i64 a, .int .i64 b, .int .i64 c] 41)) := (Below.refl _ _).alloc (Nat.le_refl _) _
  have kk_2 : Blk (w_1.alloc (.cells #[.int .i64 a, .int .i64 b, .int .i64 c] 41)) b_N 41 #[.int .i64 a, .int .i64 b, .int .i64 c] := Blk.new' hbx_N
  clear hbx_N
  generalize (w_1.alloc (.cells #[.int .i64 a, .int .i64 b, .int .i64 c] 41)) = w_2 at *
  have i_2 : In w.heap.size w w_2 := In.step (by (repeat (first | exact In.refl _ | assumption | apply In.alloc | apply In.drewN | apply In.drew | (refine In.step ?_ (by assumption))))) hb_2
  have k_2_A : Blk w_2 b_A 41 #[.int .i64 a, .int .i64 b, .int .i64 c] := Blk.step (by (with_reducible (repeat (first | assumption | exact Blk.new' (by simp) | apply Blk.drewN | apply Blk.drew | apply Blk.alloc | (refine Blk.far ?_ (by (try simp) <;> omega) _))))) hb_2
  obtain ⟨c_2_A_0, c_2_A_1, c_2_A_2⟩ := cells3 k_2_A
  have l_2_A := k_2_A.lt
  have k_2_E : Blk w_2 b_E 78 #[.int .i64 3, .int .i64 n] := Blk.step (by (with_reducible (repeat (first | assumption | exact Blk.new' (by simp) | apply Blk.drewN | apply Blk.drew | apply Blk.alloc | (refine Blk.far ?_ (by (try simp) <;> omega) _))))) hb_2
  obtain ⟨c_2_E_0, c_2_E_1⟩ := cells2 k_2_E
  have l_2_E := k_2_E.lt
  have k_2_R : Blk w_2 b_R 41 #[.int .i64 0, .int .i64 0, .int .i64 0] := Blk.step (by (with_reducible (repeat (first | assumption | exact Blk.new' (by simp) | apply Blk.drewN | apply Blk.drew | apply Blk.alloc | (refine Blk.far ?_ (by (try simp) <;> omega) _))))) hb_2
  obtain ⟨c_2_R_0, c_2_R_1, c_2_R_2⟩ := cells3 k_2_R
  have l_2_R := k_2_R.lt
  have z_2_R_0 := k_2_R.frozen 0
  have z_2_R_1 := k_2_R.frozen 1
  have z_2_R_2 := k_2_R.frozen 2
  have k_2_N : Blk w_2 b_N 41 #[.int .i64 a, .int .i64 b, .int .i64 c] := kk_2
  obtain ⟨c_2_N_0, c_2_N_1, c_2_N_2⟩ := cells3 k_2_N
  have l_2_N := k_2_N.lt
  have z_2_N_0 := k_2_N.frozen 0
  have z_2_N_1 := k_2_N.frozen 1
  have z_2_N_2 := k_2_N.frozen 2
  clear i_1 k_1_A c_1_A_0 c_1_A_1 c_1_A_2 l_1_A k_1_E c_1_E_0 c_1_E_1 l_1_E k_1_R c_1_R_0 c_1_R_1 c_1_R_2 l_1_R z_1_R_0 z_1_R_1 z_1_R_2 hb_1
  clear kk_2
  have hfv : cheapV a b c n = .tuple #[.agg #[.int .i64 a, .int .i64 (b - min (n - min n c) b), .int .i64 (c - min n c)], .int .i64 (min n c + min (n - min n c) b)] := by simp [cheapV, hsb]
  go_wp2_with (first | (go_at_call 49; refine (sIn _ _ _ _).mono ?_; rintro e w' ⟨rfl, rfl⟩) | (go_at_call 83; refine (iIn _ _ _ _).mono ?_; rintro e w' ⟨rfl, rfl⟩))
  refine (iSellCheap a b c n _).mono ?_
  rintro _ w_3 ⟨rfl, hb_3⟩
  rw [hfv]
  clear hfv
  have i_3 : In w.heap.size w w_3 := In.step (by (repeat (first | exact In.refl _ | assumption | apply In.alloc | apply In.drewN | apply In.drew | (refine In.step ?_ (by assumption))))) hb_3
  have k_3_A : Blk w_3 b_A 41 #[.int .i64 a, .int .i64 b, .int .i64 c] := Blk.step (by (with_reducible (repeat (first | assumption | exact Blk.new' (by simp) | apply Blk.drewN | apply Blk.drew | apply Blk.alloc | (refine Blk.far ?_ (by (try simp) <;> omega) _))))) hb_3
  obtain ⟨c_3_A_0, c_3_A_1, c_3_A_2⟩ := cells3 k_3_A
  have l_3_A := k_3_A.lt
  have k_3_E : Blk w_3 b_E 78 #[.int .i64 3, .int .i64 n] := Blk.step (by (with_reducible (repeat (first | assumption | exact Blk.new' (by simp) | apply Blk.drewN | apply Blk.drew | apply Blk.alloc | (refine Blk.far ?_ (by (try simp) <;> omega) _))))) hb_3
  obtain ⟨c_3_E_0, c_3_E_1⟩ := cells2 k_3_E
  have l_3_E := k_3_E.lt
  have k_3_R : Blk w_3 b_R 41 #[.int .i64 0, .int .i64 0, .int .i64 0] := Blk.step (by (with_reducible (repeat (first | assumption | exact Blk.new' (by simp) | apply Blk.drewN | apply Blk.drew | apply Blk.alloc | (refine Blk.far ?_ (by (try simp) <;> omega) _))))) hb_3
  obtain ⟨c_3_R_0, c_3_R_1, c_3_R_2⟩ := cells3 k_3_R
  have l_3_R := k_3_R.lt
  have z_3_R_0 := k_3_R.frozen 0
  have z_3_R_1 := k_3_R.frozen 1
  have z_3_R_2 := k_3_R.frozen 2
  have k_3_N : Blk w_3 b_N 41 #[.int .i64 a, .int .i64 b, .int .i64 c] := Blk.step (by (with_reducible (repeat (first | assumption | exact Blk.new' (by simp) | apply Blk.drewN | apply Blk.drew | apply Blk.alloc | (refine Blk.far ?_ (by (try simp) <;> omega) _))))) hb_3
  obtain ⟨c_3_N_0, c_3_N_1, c_3_N_2⟩ := cells3 k_3_N
  have l_3_N := k_3_N.lt
  have z_3_N_0 := k_3_N.frozen 0
  have z_3_N_1 := k_3_N.frozen 1
  have z_3_N_2 := k_3_N.frozen 2
  clear i_2 k_2_A c_2_A_0 c_2_A_1 c_2_A_2 l_2_A k_2_E c_2_E_0 c_2_E_1 l_2_E k_2_R c_2_R_0 c_2_R_1 c_2_R_2 l_2_R z_2_R_0 z_2_R_1 z_2_R_2 k_2_N c_2_N_0 c_2_N_1 c_2_N_2 l_2_N z_2_N_0 z_2_N_1 z_2_N_2 hb_2
  have hrk : rackB (a) (b - min (n - min n c) b) (c - min n c) = true := rack_of (by omega)
  have hv1 : min n c + min (n - min n c) b = n → evR a b c 3 n = ⟨a, b - min (n - min n c) b, c - min n c, 0, n, 0, true⟩ := fun h => by simp [evR, h1, h2, h]
  have hv2 : ¬ min n c + min (n - min n c) b = n → evR a b c 3 n = ⟨a, b, c, 0, 0, 0, false⟩ := fun h => by simp [evR, h1, h2, h]
  generalize min n c + min (n - min n c) b = m at *
  generalize c - min n c = x at *
  generalize b - min (n - min n c) b = y at *
  by_cases hm : m = n
  · have HV := Lib.hid (hv1 hm)
    subst hm
    clear hv1 hv2
    have hn1_A : b_A ≠ b_N := by first | exact NB_A_N.out | exact NB_N_A.out.symm
    have hn2_A : b_N ≠ b_A := hn1_A.symm
    have hn1_E : b_E ≠ b_N := by first | exact NB_E_N.out | exact NB_N_E.out.symm
    have hn2_E : b_N ≠ b_E := hn1_E.symm
    have hn1_R : b_R ≠ b_N := by first | exact NB_R_N.out | exact NB_N_R.out.symm
    have hn2_R : b_N ≠ b_R := hn1_R.symm
    go_wp2_with (first | (go_at_call 49; refine (sIn _ _ _ _).mono ?_; rintro e w' ⟨rfl, rfl⟩) | (go_at_call 83; refine (iIn _ _ _ _).mono ?_; rintro e w' ⟨rfl, rfl⟩))
    have kk_4 : Blk (((w_3.setCell ⟨b_N, 0, none⟩ (.int .i64 a)).setCell ⟨b_N, 1, none⟩ (.int .i64 y)).setCell ⟨b_N, 2, none⟩ (.int .i64 x)) b_N 41 #[.int .i64 a, .int .i64 y, .int .i64 x] := by
      have h := (((k_3_N.set_ 0 (.int .i64 a)).set_ 1 (.int .i64 y)).set_ 2 (.int .i64 x))
      simpa using h
    have ii_4 : In w.heap.size w (((w_3.setCell ⟨b_N, 0, none⟩ (.int .i64 a)).setCell ⟨b_N, 1, none⟩ (.int .i64 y)).setCell ⟨b_N, 2, none⟩ (.int .i64 x)) := (In.set_ (In.set_ (In.set_ i_3 (p := ⟨b_N, 0, none⟩) hwb_N _) (p := ⟨b_N, 1, none⟩) hwb_N _) (p := ⟨b_N, 2, none⟩) hwb_N _)
    have kf_4_A : Blk (((w_3.setCell ⟨b_N, 0, none⟩ (.int .i64 a)).setCell ⟨b_N, 1, none⟩ (.int .i64 y)).setCell ⟨b_N, 2, none⟩ (.int .i64 x)) b_A 41 #[.int .i64 a, .int .i64 b, .int .i64 c] := (Blk.far (Blk.far (Blk.far k_3_A (p := ⟨b_N, 0, none⟩) (by first | exact NB_A_N.out | exact NB_N_A.out.symm) _) (p := ⟨b_N, 1, none⟩) (by first | exact NB_A_N.out | exact NB_N_A.out.symm) _) (p := ⟨b_N, 2, none⟩) (by first | exact NB_A_N.out | exact NB_N_A.out.symm) _)
    have kf_4_E : Blk (((w_3.setCell ⟨b_N, 0, none⟩ (.int .i64 a)).setCell ⟨b_N, 1, none⟩ (.int .i64 y)).setCell ⟨b_N, 2, none⟩ (.int .i64 x)) b_E 78 #[.int .i64 3, .int .i64 m] := (Blk.far (Blk.far (Blk.far k_3_E (p := ⟨b_N, 0, none⟩) (by first | exact NB_E_N.out | exact NB_N_E.out.symm) _) (p := ⟨b_N, 1, none⟩) (by first | exact NB_E_N.out | exact NB_N_E.out.symm) _) (p := ⟨b_N, 2, none⟩) (by first | exact NB_E_N.out | exact NB_N_E.out.symm) _)
    have kf_4_R : Blk (((w_3.setCell ⟨b_N, 0, none⟩ (.int .i64 a)).setCell ⟨b_N, 1, none⟩ (.int .i64 y)).setCell ⟨b_N, 2, none⟩ (.int .i64 x)) b_R 41 #[.int .i64 0, .int .i64 0, .int .i64 0] := (Blk.far (Blk.far (Blk.far k_3_R (p := ⟨b_N, 0, none⟩) (by first | exact NB_R_N.out | exact NB_N_R.out.symm) _) (p := ⟨b_N, 1, none⟩) (by first | exact NB_R_N.out | exact NB_N_R.out.symm) _) (p := ⟨b_N, 2, none⟩) (by first | exact NB_R_N.out | exact NB_N_R.out.symm) _)
    generalize (((w_3.setCell ⟨b_N, 0, none⟩ (.int .i64 a)).setCell ⟨b_N, 1, none⟩ (.int .i64 y)).setCell ⟨b_N, 2, none⟩ (.int .i64 x)) = w_4 at *
    clear hn1_A hn2_A
    clear hn1_E hn2_E
    clear hn1_R hn2_R
    have i_4 := ii_4
    clear ii_4
    have k_4_A := kf_4_A
    clear kf_4_A
    have c_4_A_0 : w_4.cell? ⟨b_A, 0, none⟩ = some (.int .i64 a) := k_4_A.cell 0
    have c_4_A_1 : w_4.cell? ⟨b_A, 1, none⟩ = some (.int .i64 b) := k_4_A.cell 1
    have c_4_A_2 : w_4.cell? ⟨b_A, 2, none⟩ = some (.int .i64 c) := k_4_A.cell 2
    have l_4_A := k_4_A.lt
    have k_4_E := kf_4_E
    clear kf_4_E
    have c_4_E_0 : w_4.cell? ⟨b_E, 0, none⟩ = some (.int .i64 3) := k_4_E.cell 0
    have c_4_E_1 : w_4.cell? ⟨b_E, 1, none⟩ = some (.int .i64 m) := k_4_E.cell 1
    have l_4_E := k_4_E.lt
    have k_4_R := kf_4_R
    clear kf_4_R
    have c_4_R_0 : w_4.cell? ⟨b_R, 0, none⟩ = some (.int .i64 0) := k_4_R.cell 0
    have c_4_R_1 : w_4.cell? ⟨b_R, 1, none⟩ = some (.int .i64 0) := k_4_R.cell 1
    have c_4_R_2 : w_4.cell? ⟨b_R, 2, none⟩ = some (.int .i64 0) := k_4_R.cell 2
    have l_4_R := k_4_R.lt
    have z_4_R_0 := k_4_R.frozen 0
    have z_4_R_1 := k_4_R.frozen 1
    have z_4_R_2 := k_4_R.frozen 2
    have k_4_N := kk_4
    clear kk_4
    have c_4_N_0 : w_4.cell? ⟨b_N, 0, none⟩ = some (.int .i64 a) := k_4_N.cell 0
    have c_4_N_1 : w_4.cell? ⟨b_N, 1, none⟩ = some (.int .i64 y) := k_4_N.cell 1
    have c_4_N_2 : w_4.cell? ⟨b_N, 2, none⟩ = some (.int .i64 x) := k_4_N.cell 2
    have l_4_N := k_4_N.lt
    have z_4_N_0 := k_4_N.frozen 0
    have z_4_N_1 := k_4_N.frozen 1
    have z_4_N_2 := k_4_N.frozen 2
    clear i_3 k_3_A c_3_A_0 c_3_A_1 c_3_A_2 l_3_A k_3_E c_3_E_0 c_3_E_1 l_3_E k_3_R c_3_R_0 c_3_R_1 c_3_R_2 l_3_R z_3_R_0 z_3_R_1 z_3_R_2 k_3_N c_3_N_0 c_3_N_1 c_3_N_2 l_3_N z_3_N_0 z_3_N_1 z_3_N_2 hb_3
    skip
    refine (iRackOk a y x _).mono ?_
    rintro _ w_5 ⟨rfl, hb_5⟩
    rw [hrk]
    have i_5 : In w.heap.size w w_5 := In.step (by (repeat (first | exact In.refl _ | assumption | apply In.alloc | apply In.drewN | apply In.drew | (refine In.step ?_ (by assumption))))) hb_5
    have k_5_A : Blk w_5 b_A 41 #[.int .i64 a, .int .i64 b, .int .i64 c] := Blk.step (by (with_reducible (repeat (first | assumption | exact Blk.new' (by simp) | apply Blk.drewN | apply Blk.drew | apply Blk.alloc | (refine Blk.far ?_ (by (try simp) <;> omega) _))))) hb_5
    obtain ⟨c_5_A_0, c_5_A_1, c_5_A_2⟩ := cells3 k_5_A
    have l_5_A := k_5_A.lt
    have k_5_E : Blk w_5 b_E 78 #[.int .i64 3, .int .i64 m] := Blk.step (by (with_reducible (repeat (first | assumption | exact Blk.new' (by simp) | apply Blk.drewN | apply Blk.drew | apply Blk.alloc | (refine Blk.far ?_ (by (try simp) <;> omega) _))))) hb_5
    obtain ⟨c_5_E_0, c_5_E_1⟩ := cells2 k_5_E
    have l_5_E := k_5_E.lt
    have k_5_R : Blk w_5 b_R 41 #[.int .i64 0, .int .i64 0, .int .i64 0] := Blk.step (by (with_reducible (repeat (first | assumption | exact Blk.new' (by simp) | apply Blk.drewN | apply Blk.drew | apply Blk.alloc | (refine Blk.far ?_ (by (try simp) <;> omega) _))))) hb_5
    obtain ⟨c_5_R_0, c_5_R_1, c_5_R_2⟩ := cells3 k_5_R
    have l_5_R := k_5_R.lt
    have z_5_R_0 := k_5_R.frozen 0
    have z_5_R_1 := k_5_R.frozen 1
    have z_5_R_2 := k_5_R.frozen 2
    have k_5_N : Blk w_5 b_N 41 #[.int .i64 a, .int .i64 y, .int .i64 x] := Blk.step (by (with_reducible (repeat (first | assumption | exact Blk.new' (by simp) | apply Blk.drewN | apply Blk.drew | apply Blk.alloc | (refine Blk.far ?_ (by (try simp) <;> omega) _))))) hb_5
    obtain ⟨c_5_N_0, c_5_N_1, c_5_N_2⟩ := cells3 k_5_N
    have l_5_N := k_5_N.lt
    have z_5_N_0 := k_5_N.frozen 0
    have z_5_N_1 := k_5_N.frozen 1
    have z_5_N_2 := k_5_N.frozen 2
    clear i_4 k_4_A c_4_A_0 c_4_A_1 c_4_A_2 l_4_A k_4_E c_4_E_0 c_4_E_1 l_4_E k_4_R c_4_R_0 c_4_R_1 c_4_R_2 l_4_R z_4_R_0 z_4_R_1 z_4_R_2 k_4_N c_4_N_0 c_4_N_1 c_4_N_2 l_4_N z_4_N_0 z_4_N_1 z_4_N_2
    have kk : Blk (((w_5.setCell ⟨b_R, 0, none⟩ (.int .i64 a)).setCell ⟨b_R, 1, none⟩ (.int .i64 y)).setCell ⟨b_R, 2, none⟩ (.int .i64 x)) b_R 41 #[.int .i64 a, .int .i64 y, .int .i64 x] := by
      have h := (((k_5_R.set_ 0 (.int .i64 a)).set_ 1 (.int .i64 y)).set_ 2 (.int .i64 x))
      simpa using h
    have i9 : In w.heap.size w (((w_5.setCell ⟨b_R, 0, none⟩ (.int .i64 a)).setCell ⟨b_R, 1, none⟩ (.int .i64 y)).setCell ⟨b_R, 2, none⟩ (.int .i64 x)) := (In.set_ (In.set_ (In.set_ i_5 (p := ⟨b_R, 0, none⟩) hwb_R _) (p := ⟨b_R, 1, none⟩) hwb_R _) (p := ⟨b_R, 2, none⟩) hwb_R _)
    have HK0 : Hid ((_ : World).cell? ⟨b_R, 0, none⟩ = some (.int .i64 a)) := Lib.hid (kk.cell 0)
    have HK1 : Hid ((_ : World).cell? ⟨b_R, 1, none⟩ = some (.int .i64 y)) := Lib.hid (kk.cell 1)
    have HK2 : Hid ((_ : World).cell? ⟨b_R, 2, none⟩ = some (.int .i64 x)) := Lib.hid (kk.cell 2)
    clear kk
    go_wp2_with (first | (go_at_call 49; refine (sIn _ _ _ _).mono ?_; rintro e w' ⟨rfl, rfl⟩) | (go_at_call 83; refine (iIn _ _ _ _).mono ?_; rintro e w' ⟨rfl, rfl⟩))
    have hk0 := HK0.out
    have hk1 := HK1.out
    have hk2 := HK2.out
    exact bodyPost_ret (v := .tuple #[.agg #[.int .i64 a, .int .i64 y, .int .i64 x], .int .i64 0, .int .i64 m, .int .i64 0, .bool true]) (by simp [results, Try.results97, go_sem, hk0, hk1, hk2]) rfl (Val.mk' (by rw [HV.out]; rfl) i9)
  · have HV := Lib.hid (hv2 hm)
    have hmb : (m == n) = false := by simpa using hm
    clear hv1 hv2
    have hn1_A : b_A ≠ b_N := by first | exact NB_A_N.out | exact NB_N_A.out.symm
    have hn2_A : b_N ≠ b_A := hn1_A.symm
    have hn1_E : b_E ≠ b_N := by first | exact NB_E_N.out | exact NB_N_E.out.symm
    have hn2_E : b_N ≠ b_E := hn1_E.symm
    have hn1_R : b_R ≠ b_N := by first | exact NB_R_N.out | exact NB_N_R.out.symm
    have hn2_R : b_N ≠ b_R := hn1_R.symm
    have kk : Blk ((((((w_3.setCell ⟨b_N, 0, none⟩ (.int .i64 a)).setCell ⟨b_N, 1, none⟩ (.int .i64 y)).setCell ⟨b_N, 2, none⟩ (.int .i64 x)).setCell ⟨b_R, 0, none⟩ (.int .i64 a)).setCell ⟨b_R, 1, none⟩ (.int .i64 b)).setCell ⟨b_R, 2, none⟩ (.int .i64 c)) b_R 41 #[.int .i64 a, .int .i64 b, .int .i64 c] := by
      have h := ((((Blk.far (Blk.far (Blk.far k_3_R (p := ⟨b_N, 0, none⟩) (by first | exact NB_R_N.out | exact NB_N_R.out.symm) (.int .i64 a)) (p := ⟨b_N, 1, none⟩) (by first | exact NB_R_N.out | exact NB_N_R.out.symm) (.int .i64 y)) (p := ⟨b_N, 2, none⟩) (by first | exact NB_R_N.out | exact NB_N_R.out.symm) (.int .i64 x)).set_ 0 (.int .i64 a)).set_ 1 (.int .i64 b)).set_ 2 (.int .i64 c))
      simpa using h
    have i9 : In w.heap.size w ((((((w_3.setCell ⟨b_N, 0, none⟩ (.int .i64 a)).setCell ⟨b_N, 1, none⟩ (.int .i64 y)).setCell ⟨b_N, 2, none⟩ (.int .i64 x)).setCell ⟨b_R, 0, none⟩ (.int .i64 a)).setCell ⟨b_R, 1, none⟩ (.int .i64 b)).setCell ⟨b_R, 2, none⟩ (.int .i64 c)) := (In.set_ (In.set_ (In.set_ (In.set_ (In.set_ (In.set_ i_3 (p := ⟨b_N, 0, none⟩) hwb_N _) (p := ⟨b_N, 1, none⟩) hwb_N _) (p := ⟨b_N, 2, none⟩) hwb_N _) (p := ⟨b_R, 0, none⟩) hwb_R _) (p := ⟨b_R, 1, none⟩) hwb_R _) (p := ⟨b_R, 2, none⟩) hwb_R _)
    have HK0 : Hid ((_ : World).cell? ⟨b_R, 0, none⟩ = some (.int .i64 a)) := Lib.hid (kk.cell 0)
    have HK1 : Hid ((_ : World).cell? ⟨b_R, 1, none⟩ = some (.int .i64 b)) := Lib.hid (kk.cell 1)
    have HK2 : Hid ((_ : World).cell? ⟨b_R, 2, none⟩ = some (.int .i64 c)) := Lib.hid (kk.cell 2)
    clear kk
    go_wp2_with (first | (go_at_call 49; refine (sIn _ _ _ _).mono ?_; rintro e w' ⟨rfl, rfl⟩) | (go_at_call 83; refine (iIn _ _ _ _).mono ?_; rintro e w' ⟨rfl, rfl⟩))
    have hk0 := HK0.out
    have hk1 := HK1.out
    have hk2 := HK2.out
    exact bodyPost_ret (v := .tuple #[.agg #[.int .i64 a, .int .i64 b, .int .i64 c], .int .i64 0, .int .i64 0, .int .i64 0, .bool false]) (by simp [results, Try.results97, go_sem, hk0, hk1, hk2]) rfl (Val.mk' (by rw [HV.out]; rfl) i9)
set_option maxHeartbeats 4000000 in
theorem iEv4 (a b c n : Int) (w : World) (h1 : rackB a b c = true) (h2 : inB n 0 1000 = true) : Calls Try.prog 97 #[.agg #[.int .i64 a, .int .i64 b, .int .i64 c], .agg #[.int .i64 4, .int .i64 n]] w (Val (evT (evR a b c 4 n)) w) := by
  obtain ⟨b_A, hbx_A⟩ : ∃ b, b = w.heap.size := ⟨_, rfl⟩
  have kk_A : Blk (((w.alloc (.cells #[.int .i64 a, .int .i64 b, .int .i64 c] 41)).alloc (.cells #[.int .i64 4, .int .i64 n] 78)).alloc (.cells #[.int .i64 0, .int .i64 0, .int .i64 0] 41)) b_A 41 #[.int .i64 a, .int .i64 b, .int .i64 c] := (((Blk.new' (w := w) (t := 41) (cs := #[.int .i64 a, .int .i64 b, .int .i64 c]) (g := b_A) (by simp [hbx_A])).alloc (.cells #[.int .i64 4, .int .i64 n] 78)).alloc (.cells #[.int .i64 0, .int .i64 0, .int .i64 0] 41))
  have hwb_A : w.heap.size ≤ b_A := by omega
  obtain ⟨b_E, hbx_E⟩ : ∃ b, b = w.heap.size + 1 := ⟨_, rfl⟩
  have kk_E : Blk (((w.alloc (.cells #[.int .i64 a, .int .i64 b, .int .i64 c] 41)).alloc (.cells #[.int .i64 4, .int .i64 n] 78)).alloc (.cells #[.int .i64 0, .int .i64 0, .int .i64 0] 41)) b_E 78 #[.int .i64 4, .int .i64 n] := ((Blk.new' (w := (w.alloc (.cells #[.int .i64 a, .int .i64 b, .int .i64 c] 41))) (t := 78) (cs := #[.int .i64 4, .int .i64 n]) (g := b_E) (by simp [hbx_E])).alloc (.cells #[.int .i64 0, .int .i64 0, .int .i64 0] 41))
  have hwb_E : w.heap.size ≤ b_E := by omega
  obtain ⟨b_R, hbx_R⟩ : ∃ b, b = w.heap.size + 1 + 1 := ⟨_, rfl⟩
  have kk_R : Blk (((w.alloc (.cells #[.int .i64 a, .int .i64 b, .int .i64 c] 41)).alloc (.cells #[.int .i64 4, .int .i64 n] 78)).alloc (.cells #[.int .i64 0, .int .i64 0, .int .i64 0] 41)) b_R 41 #[.int .i64 0, .int .i64 0, .int .i64 0] := (Blk.new' (w := ((w.alloc (.cells #[.int .i64 a, .int .i64 b, .int .i64 c] 41)).alloc (.cells #[.int .i64 4, .int .i64 n] 78))) (t := 41) (cs := #[.int .i64 0, .int .i64 0, .int .i64 0]) (g := b_R) (by simp [hbx_R]))
  have hwb_R : w.heap.size ≤ b_R := by omega
  have NB_A_E : Hid (b_A ≠ b_E) := Lib.hid (by omega)
  have NB_A_R : Hid (b_A ≠ b_R) := Lib.hid (by omega)
  have NB_E_R : Hid (b_E ≠ b_R) := Lib.hid (by omega)
  have hb_0 : Below w.heap.size w (((w.alloc (.cells #[.int .i64 a, .int .i64 b, .int .i64 c] 41)).alloc (.cells #[.int .i64 4, .int .i64 n] 78)).alloc (.cells #[.int .i64 0, .int .i64 0, .int .i64 0] 41)) := by
    have h : In w.heap.size w (((w.alloc (.cells #[.int .i64 a, .int .i64 b, .int .i64 c] 41)).alloc (.cells #[.int .i64 4, .int .i64 n] 78)).alloc (.cells #[.int .i64 0, .int .i64 0, .int .i64 0] 41)) := by (repeat (first | exact In.refl _ | assumption | apply In.alloc | apply In.drewN | apply In.drew | (refine In.step ?_ (by assumption))))
    exact h.below
  go_enter Try.func97, Try.ntmps97
  go_wp2_with fail
  rw [← hbx_R]
  clear hbx_R
  rw [← hbx_E]
  clear hbx_E
  rw [← hbx_A]
  clear hbx_A
  generalize (((w.alloc (.cells #[.int .i64 a, .int .i64 b, .int .i64 c] 41)).alloc (.cells #[.int .i64 4, .int .i64 n] 78)).alloc (.cells #[.int .i64 0, .int .i64 0, .int .i64 0] 41)) = w_0 at *
  have i_0 : In w.heap.size w w_0 := In.step (by (repeat (first | exact In.refl _ | assumption | apply In.alloc | apply In.drewN | apply In.drew | (refine In.step ?_ (by assumption))))) hb_0
  have k_0_A : Blk w_0 b_A 41 #[.int .i64 a, .int .i64 b, .int .i64 c] := kk_A
  obtain ⟨c_0_A_0, c_0_A_1, c_0_A_2⟩ := cells3 k_0_A
  have l_0_A := k_0_A.lt
  have k_0_E : Blk w_0 b_E 78 #[.int .i64 4, .int .i64 n] := kk_E
  obtain ⟨c_0_E_0, c_0_E_1⟩ := cells2 k_0_E
  have l_0_E := k_0_E.lt
  have k_0_R : Blk w_0 b_R 41 #[.int .i64 0, .int .i64 0, .int .i64 0] := kk_R
  obtain ⟨c_0_R_0, c_0_R_1, c_0_R_2⟩ := cells3 k_0_R
  have l_0_R := k_0_R.lt
  have z_0_R_0 := k_0_R.frozen 0
  have z_0_R_1 := k_0_R.frozen 1
  have z_0_R_2 := k_0_R.frozen 2
  clear kk_A kk_E kk_R
  go_wp2_with fail
  refine (iRackOk a b c _).mono ?_
  rintro _ w_1 ⟨rfl, hb_1⟩
  rw [h1]
  have i_1 : In w.heap.size w w_1 := In.step (by (repeat (first | exact In.refl _ | assumption | apply In.alloc | apply In.drewN | apply In.drew | (refine In.step ?_ (by assumption))))) hb_1
  have k_1_A : Blk w_1 b_A 41 #[.int .i64 a, .int .i64 b, .int .i64 c] := Blk.step (by (with_reducible (repeat (first | assumption | exact Blk.new' (by simp) | apply Blk.drewN | apply Blk.drew | apply Blk.alloc | (refine Blk.far ?_ (by (try simp) <;> omega) _))))) hb_1
  obtain ⟨c_1_A_0, c_1_A_1, c_1_A_2⟩ := cells3 k_1_A
  have l_1_A := k_1_A.lt
  have k_1_E : Blk w_1 b_E 78 #[.int .i64 4, .int .i64 n] := Blk.step (by (with_reducible (repeat (first | assumption | exact Blk.new' (by simp) | apply Blk.drewN | apply Blk.drew | apply Blk.alloc | (refine Blk.far ?_ (by (try simp) <;> omega) _))))) hb_1
  obtain ⟨c_1_E_0, c_1_E_1⟩ := cells2 k_1_E
  have l_1_E := k_1_E.lt
  have k_1_R : Blk w_1 b_R 41 #[.int .i64 0, .int .i64 0, .int .i64 0] := Blk.step (by (with_reducible (repeat (first | assumption | exact Blk.new' (by simp) | apply Blk.drewN | apply Blk.drew | apply Blk.alloc | (refine Blk.far ?_ (by (try simp) <;> omega) _))))) hb_1
  obtain ⟨c_1_R_0, c_1_R_1, c_1_R_2⟩ := cells3 k_1_R
  have l_1_R := k_1_R.lt
  have z_1_R_0 := k_1_R.frozen 0
  have z_1_R_1 := k_1_R.frozen 1
  have z_1_R_2 := k_1_R.frozen 2
  clear i_0 k_0_A c_0_A_0 c_0_A_1 c_0_A_2 l_0_A k_0_E c_0_E_0 c_0_E_1 l_0_E k_0_R c_0_R_0 c_0_R_1 c_0_R_2 l_0_R z_0_R_0 z_0_R_1 z_0_R_2 hb_0
  obtain ⟨r1, r2, r3, r4, r5, r6⟩ := rack_in h1
  obtain ⟨n1, n2⟩ := inB_tt h2
  have hsb : sellB a b c n = true := by simp [sellB, h1, inB]; omega
  have hs0 : sellB a b c 0 = true := by simp [sellB, h1, inB]
  have hfv : mornV a b c 0 = .tuple #[.agg #[.int .i64 0, .int .i64 a, .int .i64 b], .int .i64 c] := by simp [mornV, hs0]
  go_wp2_with (first | (go_at_call 49; refine (sIn _ _ _ _).mono ?_; rintro e w' ⟨rfl, rfl⟩) | (go_at_call 83; refine (iIn _ _ _ _).mono ?_; rintro e w' ⟨rfl, rfl⟩))
  obtain ⟨b_N, hbx_N⟩ : ∃ b, b = w_1.heap.size := ⟨_, rfl⟩
  rw [← hbx_N]
  have hwb_N : w.heap.size ≤ b_N := by have h := In.size i_1; omega
  have NB_A_N : Hid (b_A ≠ b_N) := Lib.hid (by have h := k_1_A.lt; omega)
  have NB_E_N : Hid (b_E ≠ b_N) := Lib.hid (by have h := k_1_E.lt; omega)
  have NB_R_N : Hid (b_R ≠ b_N) := Lib.hid (by have h := k_1_R.lt; omega)
  have hb_2 : Below w_1.heap.size w_1 (w_1.alloc (.cells #[.int .i64 a, .int .i64 b, .int .i64 c] 41)) := (Below.refl _ _).alloc (Nat.le_refl _) _
  have kk_2 : Blk (w_1.alloc (.cells #[.int .i64 a, .int .i64 b, .int .i64 c] 41)) b_N 41 #[.int .i64 a, .int .i64 b, .int .i64 c] := Blk.new' hbx_N
  clear hbx_N
  generalize (w_1.alloc (.cells #[.int .i64 a, .int .i64 b, .int .i64 c] 41)) = w_2 at *
  have i_2 : In w.heap.size w w_2 := In.step (by (repeat (first | exact In.refl _ | assumption | apply In.alloc | apply In.drewN | apply In.drew | (refine In.step ?_ (by assumption))))) hb_2
  have k_2_A : Blk w_2 b_A 41 #[.int .i64 a, .int .i64 b, .int .i64 c] := Blk.step (by (with_reducible (repeat (first | assumption | exact Blk.new' (by simp) | apply Blk.drewN | apply Blk.drew | apply Blk.alloc | (refine Blk.far ?_ (by (try simp) <;> omega) _))))) hb_2
  obtain ⟨c_2_A_0, c_2_A_1, c_2_A_2⟩ := cells3 k_2_A
  have l_2_A := k_2_A.lt
  have k_2_E : Blk w_2 b_E 78 #[.int .i64 4, .int .i64 n] := Blk.step (by (with_reducible (repeat (first | assumption | exact Blk.new' (by simp) | apply Blk.drewN | apply Blk.drew | apply Blk.alloc | (refine Blk.far ?_ (by (try simp) <;> omega) _))))) hb_2
  obtain ⟨c_2_E_0, c_2_E_1⟩ := cells2 k_2_E
  have l_2_E := k_2_E.lt
  have k_2_R : Blk w_2 b_R 41 #[.int .i64 0, .int .i64 0, .int .i64 0] := Blk.step (by (with_reducible (repeat (first | assumption | exact Blk.new' (by simp) | apply Blk.drewN | apply Blk.drew | apply Blk.alloc | (refine Blk.far ?_ (by (try simp) <;> omega) _))))) hb_2
  obtain ⟨c_2_R_0, c_2_R_1, c_2_R_2⟩ := cells3 k_2_R
  have l_2_R := k_2_R.lt
  have z_2_R_0 := k_2_R.frozen 0
  have z_2_R_1 := k_2_R.frozen 1
  have z_2_R_2 := k_2_R.frozen 2
  have k_2_N : Blk w_2 b_N 41 #[.int .i64 a, .int .i64 b, .int .i64 c] := kk_2
  obtain ⟨c_2_N_0, c_2_N_1, c_2_N_2⟩ := cells3 k_2_N
  have l_2_N := k_2_N.lt
  have z_2_N_0 := k_2_N.frozen 0
  have z_2_N_1 := k_2_N.frozen 1
  have z_2_N_2 := k_2_N.frozen 2
  clear i_1 k_1_A c_1_A_0 c_1_A_1 c_1_A_2 l_1_A k_1_E c_1_E_0 c_1_E_1 l_1_E k_1_R c_1_R_0 c_1_R_1 c_1_R_2 l_1_R z_1_R_0 z_1_R_1 z_1_R_2 hb_1
  clear kk_2
  go_wp2_with (first | (go_at_call 49; refine (sIn _ _ _ _).mono ?_; rintro e w' ⟨rfl, rfl⟩) | (go_at_call 83; refine (iIn _ _ _ _).mono ?_; rintro e w' ⟨rfl, rfl⟩))
  refine (iNextMorning a b c 0 _).mono ?_
  rintro _ w_3 ⟨rfl, hb_3⟩
  rw [hfv]
  clear hfv
  have i_3 : In w.heap.size w w_3 := In.step (by (repeat (first | exact In.refl _ | assumption | apply In.alloc | apply In.drewN | apply In.drew | (refine In.step ?_ (by assumption))))) hb_3
  have k_3_A : Blk w_3 b_A 41 #[.int .i64 a, .int .i64 b, .int .i64 c] := Blk.step (by (with_reducible (repeat (first | assumption | exact Blk.new' (by simp) | apply Blk.drewN | apply Blk.drew | apply Blk.alloc | (refine Blk.far ?_ (by (try simp) <;> omega) _))))) hb_3
  obtain ⟨c_3_A_0, c_3_A_1, c_3_A_2⟩ := cells3 k_3_A
  have l_3_A := k_3_A.lt
  have k_3_E : Blk w_3 b_E 78 #[.int .i64 4, .int .i64 n] := Blk.step (by (with_reducible (repeat (first | assumption | exact Blk.new' (by simp) | apply Blk.drewN | apply Blk.drew | apply Blk.alloc | (refine Blk.far ?_ (by (try simp) <;> omega) _))))) hb_3
  obtain ⟨c_3_E_0, c_3_E_1⟩ := cells2 k_3_E
  have l_3_E := k_3_E.lt
  have k_3_R : Blk w_3 b_R 41 #[.int .i64 0, .int .i64 0, .int .i64 0] := Blk.step (by (with_reducible (repeat (first | assumption | exact Blk.new' (by simp) | apply Blk.drewN | apply Blk.drew | apply Blk.alloc | (refine Blk.far ?_ (by (try simp) <;> omega) _))))) hb_3
  obtain ⟨c_3_R_0, c_3_R_1, c_3_R_2⟩ := cells3 k_3_R
  have l_3_R := k_3_R.lt
  have z_3_R_0 := k_3_R.frozen 0
  have z_3_R_1 := k_3_R.frozen 1
  have z_3_R_2 := k_3_R.frozen 2
  have k_3_N : Blk w_3 b_N 41 #[.int .i64 a, .int .i64 b, .int .i64 c] := Blk.step (by (with_reducible (repeat (first | assumption | exact Blk.new' (by simp) | apply Blk.drewN | apply Blk.drew | apply Blk.alloc | (refine Blk.far ?_ (by (try simp) <;> omega) _))))) hb_3
  obtain ⟨c_3_N_0, c_3_N_1, c_3_N_2⟩ := cells3 k_3_N
  have l_3_N := k_3_N.lt
  have z_3_N_0 := k_3_N.frozen 0
  have z_3_N_1 := k_3_N.frozen 1
  have z_3_N_2 := k_3_N.frozen 2
  clear i_2 k_2_A c_2_A_0 c_2_A_1 c_2_A_2 l_2_A k_2_E c_2_E_0 c_2_E_1 l_2_E k_2_R c_2_R_0 c_2_R_1 c_2_R_2 l_2_R z_2_R_0 z_2_R_1 z_2_R_2 k_2_N c_2_N_0 c_2_N_1 c_2_N_2 l_2_N z_2_N_0 z_2_N_1 z_2_N_2 hb_2
  have hrk : rackB 0 a b = true := rack_of (by omega)
  by_cases hm : n = 0
  · subst hm
    have HV : Hid (evR a b c 4 0 = ⟨0, a, b, 0, 0, c, true⟩) := Lib.hid (by simp [evR, h1, h2])
    have hn1_A : b_A ≠ b_N := by first | exact NB_A_N.out | exact NB_N_A.out.symm
    have hn2_A : b_N ≠ b_A := hn1_A.symm
    have hn1_E : b_E ≠ b_N := by first | exact NB_E_N.out | exact NB_N_E.out.symm
    have hn2_E : b_N ≠ b_E := hn1_E.symm
    have hn1_R : b_R ≠ b_N := by first | exact NB_R_N.out | exact NB_N_R.out.symm
    have hn2_R : b_N ≠ b_R := hn1_R.symm
    go_wp2_with (first | (go_at_call 49; refine (sIn _ _ _ _).mono ?_; rintro e w' ⟨rfl, rfl⟩) | (go_at_call 83; refine (iIn _ _ _ _).mono ?_; rintro e w' ⟨rfl, rfl⟩))
    have kk_4 : Blk (((w_3.setCell ⟨b_N, 0, none⟩ (.int .i64 0)).setCell ⟨b_N, 1, none⟩ (.int .i64 a)).setCell ⟨b_N, 2, none⟩ (.int .i64 b)) b_N 41 #[.int .i64 0, .int .i64 a, .int .i64 b] := by
      have h := (((k_3_N.set_ 0 (.int .i64 0)).set_ 1 (.int .i64 a)).set_ 2 (.int .i64 b))
      simpa using h
    have ii_4 : In w.heap.size w (((w_3.setCell ⟨b_N, 0, none⟩ (.int .i64 0)).setCell ⟨b_N, 1, none⟩ (.int .i64 a)).setCell ⟨b_N, 2, none⟩ (.int .i64 b)) := (In.set_ (In.set_ (In.set_ i_3 (p := ⟨b_N, 0, none⟩) hwb_N _) (p := ⟨b_N, 1, none⟩) hwb_N _) (p := ⟨b_N, 2, none⟩) hwb_N _)
    have kf_4_A : Blk (((w_3.setCell ⟨b_N, 0, none⟩ (.int .i64 0)).setCell ⟨b_N, 1, none⟩ (.int .i64 a)).setCell ⟨b_N, 2, none⟩ (.int .i64 b)) b_A 41 #[.int .i64 a, .int .i64 b, .int .i64 c] := (Blk.far (Blk.far (Blk.far k_3_A (p := ⟨b_N, 0, none⟩) (by first | exact NB_A_N.out | exact NB_N_A.out.symm) _) (p := ⟨b_N, 1, none⟩) (by first | exact NB_A_N.out | exact NB_N_A.out.symm) _) (p := ⟨b_N, 2, none⟩) (by first | exact NB_A_N.out | exact NB_N_A.out.symm) _)
    have kf_4_E : Blk (((w_3.setCell ⟨b_N, 0, none⟩ (.int .i64 0)).setCell ⟨b_N, 1, none⟩ (.int .i64 a)).setCell ⟨b_N, 2, none⟩ (.int .i64 b)) b_E 78 #[.int .i64 4, .int .i64 0] := (Blk.far (Blk.far (Blk.far k_3_E (p := ⟨b_N, 0, none⟩) (by first | exact NB_E_N.out | exact NB_N_E.out.symm) _) (p := ⟨b_N, 1, none⟩) (by first | exact NB_E_N.out | exact NB_N_E.out.symm) _) (p := ⟨b_N, 2, none⟩) (by first | exact NB_E_N.out | exact NB_N_E.out.symm) _)
    have kf_4_R : Blk (((w_3.setCell ⟨b_N, 0, none⟩ (.int .i64 0)).setCell ⟨b_N, 1, none⟩ (.int .i64 a)).setCell ⟨b_N, 2, none⟩ (.int .i64 b)) b_R 41 #[.int .i64 0, .int .i64 0, .int .i64 0] := (Blk.far (Blk.far (Blk.far k_3_R (p := ⟨b_N, 0, none⟩) (by first | exact NB_R_N.out | exact NB_N_R.out.symm) _) (p := ⟨b_N, 1, none⟩) (by first | exact NB_R_N.out | exact NB_N_R.out.symm) _) (p := ⟨b_N, 2, none⟩) (by first | exact NB_R_N.out | exact NB_N_R.out.symm) _)
    generalize (((w_3.setCell ⟨b_N, 0, none⟩ (.int .i64 0)).setCell ⟨b_N, 1, none⟩ (.int .i64 a)).setCell ⟨b_N, 2, none⟩ (.int .i64 b)) = w_4 at *
    clear hn1_A hn2_A
    clear hn1_E hn2_E
    clear hn1_R hn2_R
    have i_4 := ii_4
    clear ii_4
    have k_4_A := kf_4_A
    clear kf_4_A
    have c_4_A_0 : w_4.cell? ⟨b_A, 0, none⟩ = some (.int .i64 a) := k_4_A.cell 0
    have c_4_A_1 : w_4.cell? ⟨b_A, 1, none⟩ = some (.int .i64 b) := k_4_A.cell 1
    have c_4_A_2 : w_4.cell? ⟨b_A, 2, none⟩ = some (.int .i64 c) := k_4_A.cell 2
    have l_4_A := k_4_A.lt
    have k_4_E := kf_4_E
    clear kf_4_E
    have c_4_E_0 : w_4.cell? ⟨b_E, 0, none⟩ = some (.int .i64 4) := k_4_E.cell 0
    have c_4_E_1 : w_4.cell? ⟨b_E, 1, none⟩ = some (.int .i64 0) := k_4_E.cell 1
    have l_4_E := k_4_E.lt
    have k_4_R := kf_4_R
    clear kf_4_R
    have c_4_R_0 : w_4.cell? ⟨b_R, 0, none⟩ = some (.int .i64 0) := k_4_R.cell 0
    have c_4_R_1 : w_4.cell? ⟨b_R, 1, none⟩ = some (.int .i64 0) := k_4_R.cell 1
    have c_4_R_2 : w_4.cell? ⟨b_R, 2, none⟩ = some (.int .i64 0) := k_4_R.cell 2
    have l_4_R := k_4_R.lt
    have z_4_R_0 := k_4_R.frozen 0
    have z_4_R_1 := k_4_R.frozen 1
    have z_4_R_2 := k_4_R.frozen 2
    have k_4_N := kk_4
    clear kk_4
    have c_4_N_0 : w_4.cell? ⟨b_N, 0, none⟩ = some (.int .i64 0) := k_4_N.cell 0
    have c_4_N_1 : w_4.cell? ⟨b_N, 1, none⟩ = some (.int .i64 a) := k_4_N.cell 1
    have c_4_N_2 : w_4.cell? ⟨b_N, 2, none⟩ = some (.int .i64 b) := k_4_N.cell 2
    have l_4_N := k_4_N.lt
    have z_4_N_0 := k_4_N.frozen 0
    have z_4_N_1 := k_4_N.frozen 1
    have z_4_N_2 := k_4_N.frozen 2
    clear i_3 k_3_A c_3_A_0 c_3_A_1 c_3_A_2 l_3_A k_3_E c_3_E_0 c_3_E_1 l_3_E k_3_R c_3_R_0 c_3_R_1 c_3_R_2 l_3_R z_3_R_0 z_3_R_1 z_3_R_2 k_3_N c_3_N_0 c_3_N_1 c_3_N_2 l_3_N z_3_N_0 z_3_N_1 z_3_N_2 hb_3
    skip
    refine (iRackOk 0 a b _).mono ?_
    rintro _ w_5 ⟨rfl, hb_5⟩
    rw [hrk]
    have i_5 : In w.heap.size w w_5 := In.step (by (repeat (first | exact In.refl _ | assumption | apply In.alloc | apply In.drewN | apply In.drew | (refine In.step ?_ (by assumption))))) hb_5
    have k_5_A : Blk w_5 b_A 41 #[.int .i64 a, .int .i64 b, .int .i64 c] := Blk.step (by (with_reducible (repeat (first | assumption | exact Blk.new' (by simp) | apply Blk.drewN | apply Blk.drew | apply Blk.alloc | (refine Blk.far ?_ (by (try simp) <;> omega) _))))) hb_5
    obtain ⟨c_5_A_0, c_5_A_1, c_5_A_2⟩ := cells3 k_5_A
    have l_5_A := k_5_A.lt
    have k_5_E : Blk w_5 b_E 78 #[.int .i64 4, .int .i64 0] := Blk.step (by (with_reducible (repeat (first | assumption | exact Blk.new' (by simp) | apply Blk.drewN | apply Blk.drew | apply Blk.alloc | (refine Blk.far ?_ (by (try simp) <;> omega) _))))) hb_5
    obtain ⟨c_5_E_0, c_5_E_1⟩ := cells2 k_5_E
    have l_5_E := k_5_E.lt
    have k_5_R : Blk w_5 b_R 41 #[.int .i64 0, .int .i64 0, .int .i64 0] := Blk.step (by (with_reducible (repeat (first | assumption | exact Blk.new' (by simp) | apply Blk.drewN | apply Blk.drew | apply Blk.alloc | (refine Blk.far ?_ (by (try simp) <;> omega) _))))) hb_5
    obtain ⟨c_5_R_0, c_5_R_1, c_5_R_2⟩ := cells3 k_5_R
    have l_5_R := k_5_R.lt
    have z_5_R_0 := k_5_R.frozen 0
    have z_5_R_1 := k_5_R.frozen 1
    have z_5_R_2 := k_5_R.frozen 2
    have k_5_N : Blk w_5 b_N 41 #[.int .i64 0, .int .i64 a, .int .i64 b] := Blk.step (by (with_reducible (repeat (first | assumption | exact Blk.new' (by simp) | apply Blk.drewN | apply Blk.drew | apply Blk.alloc | (refine Blk.far ?_ (by (try simp) <;> omega) _))))) hb_5
    obtain ⟨c_5_N_0, c_5_N_1, c_5_N_2⟩ := cells3 k_5_N
    have l_5_N := k_5_N.lt
    have z_5_N_0 := k_5_N.frozen 0
    have z_5_N_1 := k_5_N.frozen 1
    have z_5_N_2 := k_5_N.frozen 2
    clear i_4 k_4_A c_4_A_0 c_4_A_1 c_4_A_2 l_4_A k_4_E c_4_E_0 c_4_E_1 l_4_E k_4_R c_4_R_0 c_4_R_1 c_4_R_2 l_4_R z_4_R_0 z_4_R_1 z_4_R_2 k_4_N c_4_N_0 c_4_N_1 c_4_N_2 l_4_N z_4_N_0 z_4_N_1 z_4_N_2
    have kk : Blk (((w_5.setCell ⟨b_R, 0, none⟩ (.int .i64 0)).setCell ⟨b_R, 1, none⟩ (.int .i64 a)).setCell ⟨b_R, 2, none⟩ (.int .i64 b)) b_R 41 #[.int .i64 0, .int .i64 a, .int .i64 b] := by
      have h := (((k_5_R.set_ 0 (.int .i64 0)).set_ 1 (.int .i64 a)).set_ 2 (.int .i64 b))
      simpa using h
    have i9 : In w.heap.size w (((w_5.setCell ⟨b_R, 0, none⟩ (.int .i64 0)).setCell ⟨b_R, 1, none⟩ (.int .i64 a)).setCell ⟨b_R, 2, none⟩ (.int .i64 b)) := (In.set_ (In.set_ (In.set_ i_5 (p := ⟨b_R, 0, none⟩) hwb_R _) (p := ⟨b_R, 1, none⟩) hwb_R _) (p := ⟨b_R, 2, none⟩) hwb_R _)
    have HK0 : Hid ((_ : World).cell? ⟨b_R, 0, none⟩ = some (.int .i64 0)) := Lib.hid (kk.cell 0)
    have HK1 : Hid ((_ : World).cell? ⟨b_R, 1, none⟩ = some (.int .i64 a)) := Lib.hid (kk.cell 1)
    have HK2 : Hid ((_ : World).cell? ⟨b_R, 2, none⟩ = some (.int .i64 b)) := Lib.hid (kk.cell 2)
    clear kk
    go_wp2_with (first | (go_at_call 49; refine (sIn _ _ _ _).mono ?_; rintro e w' ⟨rfl, rfl⟩) | (go_at_call 83; refine (iIn _ _ _ _).mono ?_; rintro e w' ⟨rfl, rfl⟩))
    have hk0 := HK0.out
    have hk1 := HK1.out
    have hk2 := HK2.out
    exact bodyPost_ret (v := .tuple #[.agg #[.int .i64 0, .int .i64 a, .int .i64 b], .int .i64 0, .int .i64 0, .int .i64 c, .bool true]) (by simp [results, Try.results97, go_sem, hk0, hk1, hk2]) rfl (Val.mk' (by rw [HV.out]; rfl) i9)
  · have HV : Hid (evR a b c 4 n = ⟨a, b, c, 0, 0, 0, false⟩) := Lib.hid (by simp [evR, h1, h2, hm])
    have hmb : (n == 0) = false := by simpa using hm
    have hn1_A : b_A ≠ b_N := by first | exact NB_A_N.out | exact NB_N_A.out.symm
    have hn2_A : b_N ≠ b_A := hn1_A.symm
    have hn1_E : b_E ≠ b_N := by first | exact NB_E_N.out | exact NB_N_E.out.symm
    have hn2_E : b_N ≠ b_E := hn1_E.symm
    have hn1_R : b_R ≠ b_N := by first | exact NB_R_N.out | exact NB_N_R.out.symm
    have hn2_R : b_N ≠ b_R := hn1_R.symm
    have kk : Blk ((((((w_3.setCell ⟨b_N, 0, none⟩ (.int .i64 0)).setCell ⟨b_N, 1, none⟩ (.int .i64 a)).setCell ⟨b_N, 2, none⟩ (.int .i64 b)).setCell ⟨b_R, 0, none⟩ (.int .i64 a)).setCell ⟨b_R, 1, none⟩ (.int .i64 b)).setCell ⟨b_R, 2, none⟩ (.int .i64 c)) b_R 41 #[.int .i64 a, .int .i64 b, .int .i64 c] := by
      have h := ((((Blk.far (Blk.far (Blk.far k_3_R (p := ⟨b_N, 0, none⟩) (by first | exact NB_R_N.out | exact NB_N_R.out.symm) (.int .i64 0)) (p := ⟨b_N, 1, none⟩) (by first | exact NB_R_N.out | exact NB_N_R.out.symm) (.int .i64 a)) (p := ⟨b_N, 2, none⟩) (by first | exact NB_R_N.out | exact NB_N_R.out.symm) (.int .i64 b)).set_ 0 (.int .i64 a)).set_ 1 (.int .i64 b)).set_ 2 (.int .i64 c))
      simpa using h
    have i9 : In w.heap.size w ((((((w_3.setCell ⟨b_N, 0, none⟩ (.int .i64 0)).setCell ⟨b_N, 1, none⟩ (.int .i64 a)).setCell ⟨b_N, 2, none⟩ (.int .i64 b)).setCell ⟨b_R, 0, none⟩ (.int .i64 a)).setCell ⟨b_R, 1, none⟩ (.int .i64 b)).setCell ⟨b_R, 2, none⟩ (.int .i64 c)) := (In.set_ (In.set_ (In.set_ (In.set_ (In.set_ (In.set_ i_3 (p := ⟨b_N, 0, none⟩) hwb_N _) (p := ⟨b_N, 1, none⟩) hwb_N _) (p := ⟨b_N, 2, none⟩) hwb_N _) (p := ⟨b_R, 0, none⟩) hwb_R _) (p := ⟨b_R, 1, none⟩) hwb_R _) (p := ⟨b_R, 2, none⟩) hwb_R _)
    have HK0 : Hid ((_ : World).cell? ⟨b_R, 0, none⟩ = some (.int .i64 a)) := Lib.hid (kk.cell 0)
    have HK1 : Hid ((_ : World).cell? ⟨b_R, 1, none⟩ = some (.int .i64 b)) := Lib.hid (kk.cell 1)
    have HK2 : Hid ((_ : World).cell? ⟨b_R, 2, none⟩ = some (.int .i64 c)) := Lib.hid (kk.cell 2)
    clear kk
    go_wp2_with (first | (go_at_call 49; refine (sIn _ _ _ _).mono ?_; rintro e w' ⟨rfl, rfl⟩) | (go_at_call 83; refine (iIn _ _ _ _).mono ?_; rintro e w' ⟨rfl, rfl⟩))
    have hk0 := HK0.out
    have hk1 := HK1.out
    have hk2 := HK2.out
    exact bodyPost_ret (v := .tuple #[.agg #[.int .i64 a, .int .i64 b, .int .i64 c], .int .i64 0, .int .i64 0, .int .i64 0, .bool false]) (by simp [results, Try.results97, go_sem, hk0, hk1, hk2]) rfl (Val.mk' (by rw [HV.out]; rfl) i9)
set_option maxHeartbeats 4000000 in
theorem iEv0 (a b c k n : Int) (w : World) (h1 : rackB a b c = true) (h2 : inB n 0 1000 = true) (k1 : ¬ k = 1) (k2 : ¬ k = 2) (k3 : ¬ k = 3) (k4 : ¬ k = 4) : Calls Try.prog 97 #[.agg #[.int .i64 a, .int .i64 b, .int .i64 c], .agg #[.int .i64 k, .int .i64 n]] w (Val (evT (evR a b c k n)) w) := by
  obtain ⟨b_A, hbx_A⟩ : ∃ b, b = w.heap.size := ⟨_, rfl⟩
  have kk_A : Blk (((w.alloc (.cells #[.int .i64 a, .int .i64 b, .int .i64 c] 41)).alloc (.cells #[.int .i64 k, .int .i64 n] 78)).alloc (.cells #[.int .i64 0, .int .i64 0, .int .i64 0] 41)) b_A 41 #[.int .i64 a, .int .i64 b, .int .i64 c] := (((Blk.new' (w := w) (t := 41) (cs := #[.int .i64 a, .int .i64 b, .int .i64 c]) (g := b_A) (by simp [hbx_A])).alloc (.cells #[.int .i64 k, .int .i64 n] 78)).alloc (.cells #[.int .i64 0, .int .i64 0, .int .i64 0] 41))
  have hwb_A : w.heap.size ≤ b_A := by omega
  obtain ⟨b_E, hbx_E⟩ : ∃ b, b = w.heap.size + 1 := ⟨_, rfl⟩
  have kk_E : Blk (((w.alloc (.cells #[.int .i64 a, .int .i64 b, .int .i64 c] 41)).alloc (.cells #[.int .i64 k, .int .i64 n] 78)).alloc (.cells #[.int .i64 0, .int .i64 0, .int .i64 0] 41)) b_E 78 #[.int .i64 k, .int .i64 n] := ((Blk.new' (w := (w.alloc (.cells #[.int .i64 a, .int .i64 b, .int .i64 c] 41))) (t := 78) (cs := #[.int .i64 k, .int .i64 n]) (g := b_E) (by simp [hbx_E])).alloc (.cells #[.int .i64 0, .int .i64 0, .int .i64 0] 41))
  have hwb_E : w.heap.size ≤ b_E := by omega
  obtain ⟨b_R, hbx_R⟩ : ∃ b, b = w.heap.size + 1 + 1 := ⟨_, rfl⟩
  have kk_R : Blk (((w.alloc (.cells #[.int .i64 a, .int .i64 b, .int .i64 c] 41)).alloc (.cells #[.int .i64 k, .int .i64 n] 78)).alloc (.cells #[.int .i64 0, .int .i64 0, .int .i64 0] 41)) b_R 41 #[.int .i64 0, .int .i64 0, .int .i64 0] := (Blk.new' (w := ((w.alloc (.cells #[.int .i64 a, .int .i64 b, .int .i64 c] 41)).alloc (.cells #[.int .i64 k, .int .i64 n] 78))) (t := 41) (cs := #[.int .i64 0, .int .i64 0, .int .i64 0]) (g := b_R) (by simp [hbx_R]))
  have hwb_R : w.heap.size ≤ b_R := by omega
  have NB_A_E : Hid (b_A ≠ b_E) := Lib.hid (by omega)
  have NB_A_R : Hid (b_A ≠ b_R) := Lib.hid (by omega)
  have NB_E_R : Hid (b_E ≠ b_R) := Lib.hid (by omega)
  have hb_0 : Below w.heap.size w (((w.alloc (.cells #[.int .i64 a, .int .i64 b, .int .i64 c] 41)).alloc (.cells #[.int .i64 k, .int .i64 n] 78)).alloc (.cells #[.int .i64 0, .int .i64 0, .int .i64 0] 41)) := by
    have h : In w.heap.size w (((w.alloc (.cells #[.int .i64 a, .int .i64 b, .int .i64 c] 41)).alloc (.cells #[.int .i64 k, .int .i64 n] 78)).alloc (.cells #[.int .i64 0, .int .i64 0, .int .i64 0] 41)) := by (repeat (first | exact In.refl _ | assumption | apply In.alloc | apply In.drewN | apply In.drew | (refine In.step ?_ (by assumption))))
    exact h.below
  go_enter Try.func97, Try.ntmps97
  go_wp2_with fail
  rw [← hbx_R]
  clear hbx_R
  rw [← hbx_E]
  clear hbx_E
  rw [← hbx_A]
  clear hbx_A
  generalize (((w.alloc (.cells #[.int .i64 a, .int .i64 b, .int .i64 c] 41)).alloc (.cells #[.int .i64 k, .int .i64 n] 78)).alloc (.cells #[.int .i64 0, .int .i64 0, .int .i64 0] 41)) = w_0 at *
  have i_0 : In w.heap.size w w_0 := In.step (by (repeat (first | exact In.refl _ | assumption | apply In.alloc | apply In.drewN | apply In.drew | (refine In.step ?_ (by assumption))))) hb_0
  have k_0_A : Blk w_0 b_A 41 #[.int .i64 a, .int .i64 b, .int .i64 c] := kk_A
  obtain ⟨c_0_A_0, c_0_A_1, c_0_A_2⟩ := cells3 k_0_A
  have l_0_A := k_0_A.lt
  have k_0_E : Blk w_0 b_E 78 #[.int .i64 k, .int .i64 n] := kk_E
  obtain ⟨c_0_E_0, c_0_E_1⟩ := cells2 k_0_E
  have l_0_E := k_0_E.lt
  have k_0_R : Blk w_0 b_R 41 #[.int .i64 0, .int .i64 0, .int .i64 0] := kk_R
  obtain ⟨c_0_R_0, c_0_R_1, c_0_R_2⟩ := cells3 k_0_R
  have l_0_R := k_0_R.lt
  have z_0_R_0 := k_0_R.frozen 0
  have z_0_R_1 := k_0_R.frozen 1
  have z_0_R_2 := k_0_R.frozen 2
  clear kk_A kk_E kk_R
  go_wp2_with fail
  refine (iRackOk a b c _).mono ?_
  rintro _ w_1 ⟨rfl, hb_1⟩
  rw [h1]
  have i_1 : In w.heap.size w w_1 := In.step (by (repeat (first | exact In.refl _ | assumption | apply In.alloc | apply In.drewN | apply In.drew | (refine In.step ?_ (by assumption))))) hb_1
  have k_1_A : Blk w_1 b_A 41 #[.int .i64 a, .int .i64 b, .int .i64 c] := Blk.step (by (with_reducible (repeat (first | assumption | exact Blk.new' (by simp) | apply Blk.drewN | apply Blk.drew | apply Blk.alloc | (refine Blk.far ?_ (by (try simp) <;> omega) _))))) hb_1
  obtain ⟨c_1_A_0, c_1_A_1, c_1_A_2⟩ := cells3 k_1_A
  have l_1_A := k_1_A.lt
  have k_1_E : Blk w_1 b_E 78 #[.int .i64 k, .int .i64 n] := Blk.step (by (with_reducible (repeat (first | assumption | exact Blk.new' (by simp) | apply Blk.drewN | apply Blk.drew | apply Blk.alloc | (refine Blk.far ?_ (by (try simp) <;> omega) _))))) hb_1
  obtain ⟨c_1_E_0, c_1_E_1⟩ := cells2 k_1_E
  have l_1_E := k_1_E.lt
  have k_1_R : Blk w_1 b_R 41 #[.int .i64 0, .int .i64 0, .int .i64 0] := Blk.step (by (with_reducible (repeat (first | assumption | exact Blk.new' (by simp) | apply Blk.drewN | apply Blk.drew | apply Blk.alloc | (refine Blk.far ?_ (by (try simp) <;> omega) _))))) hb_1
  obtain ⟨c_1_R_0, c_1_R_1, c_1_R_2⟩ := cells3 k_1_R
  have l_1_R := k_1_R.lt
  have z_1_R_0 := k_1_R.frozen 0
  have z_1_R_1 := k_1_R.frozen 1
  have z_1_R_2 := k_1_R.frozen 2
  clear i_0 k_0_A c_0_A_0 c_0_A_1 c_0_A_2 l_0_A k_0_E c_0_E_0 c_0_E_1 l_0_E k_0_R c_0_R_0 c_0_R_1 c_0_R_2 l_0_R z_0_R_0 z_0_R_1 z_0_R_2 hb_0
  obtain ⟨r1, r2, r3, r4, r5, r6⟩ := rack_in h1
  obtain ⟨n1, n2⟩ := inB_tt h2
  have hsb : sellB a b c n = true := by simp [sellB, h1, inB]; omega
  have k1b : (k == 1) = false := by simpa using k1
  have k2b : (k == 2) = false := by simpa using k2
  have k3b : (k == 3) = false := by simpa using k3
  have k4b : (k == 4) = false := by simpa using k4
  have HV : Hid (evR a b c k n = ⟨a, b, c, 0, 0, 0, false⟩) := Lib.hid (by simp [evR, k1, k2, k3, k4])
  have kk : Blk ((((w_1.setCell ⟨b_R, 0, none⟩ (.int .i64 a)).setCell ⟨b_R, 1, none⟩ (.int .i64 b)).setCell ⟨b_R, 2, none⟩ (.int .i64 c)).alloc (.cells #[.int .i64 a, .int .i64 b, .int .i64 c] 41)) b_R 41 #[.int .i64 a, .int .i64 b, .int .i64 c] := by
    have h := (((k_1_R.set_ 0 (.int .i64 a)).set_ 1 (.int .i64 b)).set_ 2 (.int .i64 c)).alloc (.cells #[.int .i64 a, .int .i64 b, .int .i64 c] 41)
    simpa using h
  have i9 : In w.heap.size w ((((w_1.setCell ⟨b_R, 0, none⟩ (.int .i64 a)).setCell ⟨b_R, 1, none⟩ (.int .i64 b)).setCell ⟨b_R, 2, none⟩ (.int .i64 c)).alloc (.cells #[.int .i64 a, .int .i64 b, .int .i64 c] 41)) := ((In.set_ (In.set_ (In.set_ i_1 (p := ⟨b_R, 0, none⟩) hwb_R _) (p := ⟨b_R, 1, none⟩) hwb_R _) (p := ⟨b_R, 2, none⟩) hwb_R _)).alloc _
  have HK0 : Hid ((_ : World).cell? ⟨b_R, 0, none⟩ = some (.int .i64 a)) := Lib.hid (kk.cell 0)
  have HK1 : Hid ((_ : World).cell? ⟨b_R, 1, none⟩ = some (.int .i64 b)) := Lib.hid (kk.cell 1)
  have HK2 : Hid ((_ : World).cell? ⟨b_R, 2, none⟩ = some (.int .i64 c)) := Lib.hid (kk.cell 2)
  clear kk
  go_wp2_with (first | (go_at_call 49; refine (sIn _ _ _ _).mono ?_; rintro e w' ⟨rfl, rfl⟩) | (go_at_call 83; refine (iIn _ _ _ _).mono ?_; rintro e w' ⟨rfl, rfl⟩))
  have hk0 := HK0.out
  have hk1 := HK1.out
  have hk2 := HK2.out
  exact bodyPost_ret (v := .tuple #[.agg #[.int .i64 a, .int .i64 b, .int .i64 c], .int .i64 0, .int .i64 0, .int .i64 0, .bool false]) (by simp [results, Try.results97, go_sem, hk0, hk1, hk2]) rfl (Val.mk' (by rw [HV.out]; rfl) i9)
end Go.Proofs.Ytmcfghklfkmfkaa
