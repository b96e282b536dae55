/- Chapter 37: EventOn. -/
import Derived.Test.YtmcfghklfkmfkaaC13
import Derived.Test.YtmcfghklfkmfkaaSum
import Derived.Test.YtmcfghklfkmfkaaIn
import Derived.IntWalk
namespace Go.Proofs.Ytmcfghklfkmfkaa
open Go.ChangeShapes Go.WideShapes Go.ChangeAt Go.RowKit
set_option linter.unusedVariables false
set_option linter.unusedSimpArgs false
set_option maxHeartbeats 2000000

/-- what an event leaves and gives -/
structure EvR where
  f0 : Int
  f1 : Int
  f2 : Int
  m : Int
  s : Int
  t : Int
  ok : Bool
def evR (a b c k n : Int) : EvR :=
  if rackB a b c && inB n 0 1000 then
    if k = 1 then (if rackB (a + n) b c then ⟨a + n, b, c, n, 0, 0, true⟩ else ⟨a, b, c, 0, 0, 0, false⟩)
    else if k = 2 then (if min n a + min (n - min n a) b = n then ⟨a - min n a, b - min (n - min n a) b, c, 0, n, 0, true⟩ else ⟨a, b, c, 0, 0, 0, false⟩)
    else if k = 3 then (if min n c + min (n - min n c) b = n then ⟨a, b - min (n - min n c) b, c - min n c, 0, n, 0, true⟩ else ⟨a, b, c, 0, 0, 0, false⟩)
    else if k = 4 then (if n = 0 then ⟨0, a, b, 0, 0, c, true⟩ else ⟨a, b, c, 0, 0, 0, false⟩)
    else ⟨a, b, c, 0, 0, 0, false⟩
  else ⟨a, b, c, 0, 0, 0, false⟩
def evT (r : EvR) : Value := .tuple #[.agg #[.int .i64 r.f0, .int .i64 r.f1, .int .i64 r.f2], .int .i64 r.m, .int .i64 r.s, .int .i64 r.t, .bool r.ok]
theorem rack_of {a b c : Int} (h : 0 ≤ a ∧ a ≤ 10000 ∧ 0 ≤ b ∧ b ≤ 10000 ∧ 0 ≤ c ∧ c ≤ 10000) : rackB a b c = true := by simp [rackB, inB]; omega
theorem ev_ok {a b c k n : Int} (h : (evR a b c k n).ok = true) : rackB (evR a b c k n).f0 (evR a b c k n).f1 (evR a b c k n).f2 = true ∧ 0 ≤ (evR a b c k n).m ∧ (evR a b c k n).m ≤ 1000 ∧ 0 ≤ (evR a b c k n).s ∧ (evR a b c k n).s ≤ 1000 ∧ 0 ≤ (evR a b c k n).t ∧ (evR a b c k n).t ≤ 10000 := by
  unfold evR at h ⊢
  by_cases h0 : (rackB a b c && inB n 0 1000) = true
  · simp only [h0, if_true] at h ⊢
    rw [Bool.and_eq_true] at h0
    have hr := rack_in h0.1
    have hn := inB_tt h0.2
    by_cases k1 : k = 1
    · simp only [k1, if_true] at h ⊢
      split at h
      · rename_i h1; simp only [h1, if_true]; exact ⟨trivial, by omega, by omega, by omega, by omega, by omega, by omega⟩
      · cases h
    · simp only [k1, if_false] at h ⊢
      by_cases k2 : k = 2
      · simp only [k2, if_true] at h ⊢
        split at h
        · rename_i h1; simp only [h1, if_true]; exact ⟨rack_of (by omega), by omega, by omega, by omega, by omega, by omega, by omega⟩
        · cases h
      · simp only [k2, if_false] at h ⊢
        by_cases k3 : k = 3
        · simp only [k3, if_true] at h ⊢
          split at h
          · rename_i h1; simp only [h1, if_true]; exact ⟨rack_of (by omega), by omega, by omega, by omega, by omega, by omega, by omega⟩
          · cases h
        · simp only [k3, if_false] at h ⊢
          by_cases k4 : k = 4
          · simp only [k4, if_true] at h ⊢
            split at h
            · rename_i h1; simp only [h1, if_true]; exact ⟨rack_of (by omega), by omega, by omega, by omega, by omega, by omega, by omega⟩
            · cases h
          · simp only [k4, if_false] at h; cases h
  · simp only [h0, if_false] at h; cases h
set_option maxHeartbeats 4000000 in
theorem sEv1 (a b c n : Int) (w : World) (h1 : rackB a b c = true) (h2 : inB n 0 1000 = true) : Calls Try.prog 100 #[.agg #[.int .i64 a, .int .i64 b, .int .i64 c], .agg #[.int .i64 1, .int .i64 n]] w (Val (evT (evR a b c 1 n)) w) := by
  obtain ⟨b_A, hbx_A⟩ : ∃ b, b = w.heap.size := ⟨_, rfl⟩
  have kk_A : Blk (((w.alloc (.cells #[.int .i64 a, .int .i64 b, .int .i64 c] 41)).alloc (.cells #[.int .i64 1, .int .i64 n] 78)).alloc (.cells #[.int .i64 0, .int .i64 0, .int .i64 0] 41)) b_A 41 #[.int .i64 a, .int .i64 b, .int .i64 c] := (((Blk.new' (w := w) (t := 41) (cs := #[.int .i64 a, .int .i64 b, .int .i64 c]) (g := b_A) (by simp [hbx_A])).alloc (.cells #[.int .i64 1, .int .i64 n] 78)).alloc (.cells #[.int .i64 0, .int .i64 0, .int .i64 0] 41))
  have hwb_A : w.heap.size ≤ b_A := by omega
  obtain ⟨b_E, hbx_E⟩ : ∃ b, b = w.heap.size + 1 := ⟨_, rfl⟩
  have kk_E : Blk (((w.alloc (.cells #[.int .i64 a, .int .i64 b, .int .i64 c] 41)).alloc (.cells #[.int .i64 1, .int .i64 n] 78)).alloc (.cells #[.int .i64 0, .int .i64 0, .int .i64 0] 41)) b_E 78 #[.int .i64 1, .int .i64 n] := ((Blk.new' (w := (w.alloc (.cells #[.int .i64 a, .int .i64 b, .int .i64 c] 41))) (t := 78) (cs := #[.int .i64 1, .int .i64 n]) (g := b_E) (by simp [hbx_E])).alloc (.cells #[.int .i64 0, .int .i64 0, .int .i64 0] 41))
  have hwb_E : w.heap.size ≤ b_E := by omega
  obtain ⟨b_R, hbx_R⟩ : ∃ b, b = w.heap.size + 1 + 1 := ⟨_, rfl⟩
  have kk_R : Blk (((w.alloc (.cells #[.int .i64 a, .int .i64 b, .int .i64 c] 41)).alloc (.cells #[.int .i64 1, .int .i64 n] 78)).alloc (.cells #[.int .i64 0, .int .i64 0, .int .i64 0] 41)) b_R 41 #[.int .i64 0, .int .i64 0, .int .i64 0] := (Blk.new' (w := ((w.alloc (.cells #[.int .i64 a, .int .i64 b, .int .i64 c] 41)).alloc (.cells #[.int .i64 1, .int .i64 n] 78))) (t := 41) (cs := #[.int .i64 0, .int .i64 0, .int .i64 0]) (g := b_R) (by simp [hbx_R]))
  have hwb_R : w.heap.size ≤ b_R := by omega
  have NB_A_E : Hid (b_A ≠ b_E) := Lib.hid (by omega)
  have NB_A_R : Hid (b_A ≠ b_R) := Lib.hid (by omega)
  have NB_E_R : Hid (b_E ≠ b_R) := Lib.hid (by omega)
  have hb_0 : Below w.heap.size w (((w.alloc (.cells #[.int .i64 a, .int .i64 b, .int .i64 c] 41)).alloc (.cells #[.int .i64 1, .int .i64 n] 78)).alloc (.cells #[.int .i64 0, .int .i64 0, .int .i64 0] 41)) := by
    have h : In w.heap.size w (((w.alloc (.cells #[.int .i64 a, .int .i64 b, .int .i64 c] 41)).alloc (.cells #[.int .i64 1, .int .i64 n] 78)).alloc (.cells #[.int .i64 0, .int .i64 0, .int .i64 0] 41)) := by (repeat (first | exact In.refl _ | assumption | apply In.alloc | apply In.drewN | apply In.drew | (refine In.step ?_ (by assumption))))
    exact h.below
  go_enter Try.func100, Try.ntmps100
  go_wp2_with fail
  rw [← hbx_R]
  clear hbx_R
  rw [← hbx_E]
  clear hbx_E
  rw [← hbx_A]
  clear hbx_A
  generalize (((w.alloc (.cells #[.int .i64 a, .int .i64 b, .int .i64 c] 41)).alloc (.cells #[.int .i64 1, .int .i64 n] 78)).alloc (.cells #[.int .i64 0, .int .i64 0, .int .i64 0] 41)) = w_0 at *
  have i_0 : In w.heap.size w w_0 := In.step (by (repeat (first | exact In.refl _ | assumption | apply In.alloc | apply In.drewN | apply In.drew | (refine In.step ?_ (by assumption))))) hb_0
  have k_0_A : Blk w_0 b_A 41 #[.int .i64 a, .int .i64 b, .int .i64 c] := kk_A
  obtain ⟨c_0_A_0, c_0_A_1, c_0_A_2⟩ := cells3 k_0_A
  have l_0_A := k_0_A.lt
  have k_0_E : Blk w_0 b_E 78 #[.int .i64 1, .int .i64 n] := kk_E
  obtain ⟨c_0_E_0, c_0_E_1⟩ := cells2 k_0_E
  have l_0_E := k_0_E.lt
  have k_0_R : Blk w_0 b_R 41 #[.int .i64 0, .int .i64 0, .int .i64 0] := kk_R
  obtain ⟨c_0_R_0, c_0_R_1, c_0_R_2⟩ := cells3 k_0_R
  have l_0_R := k_0_R.lt
  have z_0_R_0 := k_0_R.frozen 0
  have z_0_R_1 := k_0_R.frozen 1
  have z_0_R_2 := k_0_R.frozen 2
  clear kk_A kk_E kk_R
  go_wp2_with fail
  refine (sRackOk a b c _).mono ?_
  rintro _ w_1 ⟨rfl, hb_1⟩
  rw [h1]
  have i_1 : In w.heap.size w w_1 := In.step (by (repeat (first | exact In.refl _ | assumption | apply In.alloc | apply In.drewN | apply In.drew | (refine In.step ?_ (by assumption))))) hb_1
  have k_1_A : Blk w_1 b_A 41 #[.int .i64 a, .int .i64 b, .int .i64 c] := Blk.step (by (with_reducible (repeat (first | assumption | exact Blk.new' (by simp) | apply Blk.drewN | apply Blk.drew | apply Blk.alloc | (refine Blk.far ?_ (by (try simp) <;> omega) _))))) hb_1
  obtain ⟨c_1_A_0, c_1_A_1, c_1_A_2⟩ := cells3 k_1_A
  have l_1_A := k_1_A.lt
  have k_1_E : Blk w_1 b_E 78 #[.int .i64 1, .int .i64 n] := Blk.step (by (with_reducible (repeat (first | assumption | exact Blk.new' (by simp) | apply Blk.drewN | apply Blk.drew | apply Blk.alloc | (refine Blk.far ?_ (by (try simp) <;> omega) _))))) hb_1
  obtain ⟨c_1_E_0, c_1_E_1⟩ := cells2 k_1_E
  have l_1_E := k_1_E.lt
  have k_1_R : Blk w_1 b_R 41 #[.int .i64 0, .int .i64 0, .int .i64 0] := Blk.step (by (with_reducible (repeat (first | assumption | exact Blk.new' (by simp) | apply Blk.drewN | apply Blk.drew | apply Blk.alloc | (refine Blk.far ?_ (by (try simp) <;> omega) _))))) hb_1
  obtain ⟨c_1_R_0, c_1_R_1, c_1_R_2⟩ := cells3 k_1_R
  have l_1_R := k_1_R.lt
  have z_1_R_0 := k_1_R.frozen 0
  have z_1_R_1 := k_1_R.frozen 1
  have z_1_R_2 := k_1_R.frozen 2
  clear i_0 k_0_A c_0_A_0 c_0_A_1 c_0_A_2 l_0_A k_0_E c_0_E_0 c_0_E_1 l_0_E k_0_R c_0_R_0 c_0_R_1 c_0_R_2 l_0_R z_0_R_0 z_0_R_1 z_0_R_2 hb_0
  obtain ⟨r1, r2, r3, r4, r5, r6⟩ := rack_in h1
  obtain ⟨n1, n2⟩ := inB_tt h2
  have hsb : sellB a b c n = true := by simp [sellB, h1, inB]; omega
  have e1 : wrap64 (a + n) = a + n := w64 (by omega)
  have e2 : IntKind.i64.wrap (a + n) = a + n := IntWalk.i64_in _ (by omega)
  go_wp2_with (first | (go_at_call 49; refine (sIn _ _ _ _).mono ?_; rintro e w' ⟨rfl, rfl⟩) | (go_at_call 83; refine (iIn _ _ _ _).mono ?_; rintro e w' ⟨rfl, rfl⟩))
  obtain ⟨b_N, hbx_N⟩ : ∃ b, b = w_1.heap.size := ⟨_, rfl⟩
  rw [← hbx_N]
  have hwb_N : w.heap.size ≤ b_N := by have h := In.size i_1; omega
  have NB_A_N : Hid (b_A ≠ b_N) := Lib.hid (by have h := k_1_A.lt; omega)
  have NB_E_N : Hid (b_E ≠ b_N) := Lib.hid (by have h := k_1_E.lt; omega)
  have NB_R_N : Hid (b_R ≠ b_N) := Lib.hid (by have h := k_1_R.lt; omega)
  have hb_2 : Below w_1.heap.size w_1 (w_1.alloc (.cells #[.int .i64 (a + n), .int .i64 b, .int .i64 c] 41)) := (Below.refl _ _).alloc (Nat.le_refl _) _
  have kk_2 : Blk (w_1.alloc (.cells #[.int .i64 (a + n), .int .i64 b, .int .i64 c] 41)) b_N 41 #[.int .i64 (a + n), .int .i64 b, .int .i64 c] := Blk.new' hbx_N
  clear hbx_N
  generalize (w_1.alloc (.cells #[.int .i64 (a + n), .int .i64 b, .int .i64 c] 41)) = w_2 at *
  have i_2 : In w.heap.size w w_2 := In.step (by (repeat (first | exact In.refl _ | assumption | apply In.alloc | apply In.drewN | apply In.drew | (refine In.step ?_ (by assumption))))) hb_2
  have k_2_A : Blk w_2 b_A 41 #[.int .i64 a, .int .i64 b, .int .i64 c] := Blk.step (by (with_reducible (repeat (first | assumption | exact Blk.new' (by simp) | apply Blk.drewN | apply Blk.drew | apply Blk.alloc | (refine Blk.far ?_ (by (try simp) <;> omega) _))))) hb_2
  obtain ⟨c_2_A_0, c_2_A_1, c_2_A_2⟩ := cells3 k_2_A
  have l_2_A := k_2_A.lt
  have k_2_E : Blk w_2 b_E 78 #[.int .i64 1, .int .i64 n] := Blk.step (by (with_reducible (repeat (first | assumption | exact Blk.new' (by simp) | apply Blk.drewN | apply Blk.drew | apply Blk.alloc | (refine Blk.far ?_ (by (try simp) <;> omega) _))))) hb_2
  obtain ⟨c_2_E_0, c_2_E_1⟩ := cells2 k_2_E
  have l_2_E := k_2_E.lt
  have k_2_R : Blk w_2 b_R 41 #[.int .i64 0, .int .i64 0, .int .i64 0] := Blk.step (by (with_reducible (repeat (first | assumption | exact Blk.new' (by simp) | apply Blk.drewN | apply Blk.drew | apply Blk.alloc | (refine Blk.far ?_ (by (try simp) <;> omega) _))))) hb_2
  obtain ⟨c_2_R_0, c_2_R_1, c_2_R_2⟩ := cells3 k_2_R
  have l_2_R := k_2_R.lt
  have z_2_R_0 := k_2_R.frozen 0
  have z_2_R_1 := k_2_R.frozen 1
  have z_2_R_2 := k_2_R.frozen 2
  have k_2_N : Blk w_2 b_N 41 #[.int .i64 (a + n), .int .i64 b, .int .i64 c] := kk_2
  obtain ⟨c_2_N_0, c_2_N_1, c_2_N_2⟩ := cells3 k_2_N
  have l_2_N := k_2_N.lt
  have z_2_N_0 := k_2_N.frozen 0
  have z_2_N_1 := k_2_N.frozen 1
  have z_2_N_2 := k_2_N.frozen 2
  clear i_1 k_1_A c_1_A_0 c_1_A_1 c_1_A_2 l_1_A k_1_E c_1_E_0 c_1_E_1 l_1_E k_1_R c_1_R_0 c_1_R_1 c_1_R_2 l_1_R z_1_R_0 z_1_R_1 z_1_R_2 hb_1
  clear kk_2
  go_wp2_with fail
  refine (sRackOk (a + n) b c _).mono ?_
  rintro _ w_3 ⟨rfl, hb_3⟩
  have i_3 : In w.heap.size w w_3 := In.step (by (repeat (first | exact In.refl _ | assumption | apply In.alloc | apply In.drewN | apply In.drew | (refine In.step ?_ (by assumption))))) hb_3
  have k_3_A : Blk w_3 b_A 41 #[.int .i64 a, .int .i64 b, .int .i64 c] := Blk.step (by (with_reducible (repeat (first | assumption | exact Blk.new' (by simp) | apply Blk.drewN | apply Blk.drew | apply Blk.alloc | (refine Blk.far ?_ (by (try simp) <;> omega) _))))) hb_3
  obtain ⟨c_3_A_0, c_3_A_1, c_3_A_2⟩ := cells3 k_3_A
  have l_3_A := k_3_A.lt
  have k_3_E : Blk w_3 b_E 78 #[.int .i64 1, .int .i64 n] := Blk.step (by (with_reducible (repeat (first | assumption | exact Blk.new' (by simp) | apply Blk.drewN | apply Blk.drew | apply Blk.alloc | (refine Blk.far ?_ (by (try simp) <;> omega) _))))) hb_3
  obtain ⟨c_3_E_0, c_3_E_1⟩ := cells2 k_3_E
  have l_3_E := k_3_E.lt
  have k_3_R : Blk w_3 b_R 41 #[.int .i64 0, .int .i64 0, .int .i64 0] := Blk.step (by (with_reducible (repeat (first | assumption | exact Blk.new' (by simp) | apply Blk.drewN | apply Blk.drew | apply Blk.alloc | (refine Blk.far ?_ (by (try simp) <;> omega) _))))) hb_3
  obtain ⟨c_3_R_0, c_3_R_1, c_3_R_2⟩ := cells3 k_3_R
  have l_3_R := k_3_R.lt
  have z_3_R_0 := k_3_R.frozen 0
  have z_3_R_1 := k_3_R.frozen 1
  have z_3_R_2 := k_3_R.frozen 2
  have k_3_N : Blk w_3 b_N 41 #[.int .i64 (a + n), .int .i64 b, .int .i64 c] := Blk.step (by (with_reducible (repeat (first | assumption | exact Blk.new' (by simp) | apply Blk.drewN | apply Blk.drew | apply Blk.alloc | (refine Blk.far ?_ (by (try simp) <;> omega) _))))) hb_3
  obtain ⟨c_3_N_0, c_3_N_1, c_3_N_2⟩ := cells3 k_3_N
  have l_3_N := k_3_N.lt
  have z_3_N_0 := k_3_N.frozen 0
  have z_3_N_1 := k_3_N.frozen 1
  have z_3_N_2 := k_3_N.frozen 2
  clear i_2 k_2_A c_2_A_0 c_2_A_1 c_2_A_2 l_2_A k_2_E c_2_E_0 c_2_E_1 l_2_E k_2_R c_2_R_0 c_2_R_1 c_2_R_2 l_2_R z_2_R_0 z_2_R_1 z_2_R_2 k_2_N c_2_N_0 c_2_N_1 c_2_N_2 l_2_N z_2_N_0 z_2_N_1 z_2_N_2 hb_2
  cases h3 : rackB (a + n) b c
  · have HV : Hid (evR a b c 1 n = ⟨a, b, c, 0, 0, 0, false⟩) := Lib.hid (by simp [evR, h1, h2, h3])
    have kk : Blk (((w_3.setCell ⟨b_R, 0, none⟩ (.int .i64 a)).setCell ⟨b_R, 1, none⟩ (.int .i64 b)).setCell ⟨b_R, 2, none⟩ (.int .i64 c)) b_R 41 #[.int .i64 a, .int .i64 b, .int .i64 c] := by
      have h := (((k_3_R.set_ 0 (.int .i64 a)).set_ 1 (.int .i64 b)).set_ 2 (.int .i64 c))
      simpa using h
    have i9 : In w.heap.size w (((w_3.setCell ⟨b_R, 0, none⟩ (.int .i64 a)).setCell ⟨b_R, 1, none⟩ (.int .i64 b)).setCell ⟨b_R, 2, none⟩ (.int .i64 c)) := (In.set_ (In.set_ (In.set_ i_3 (p := ⟨b_R, 0, none⟩) hwb_R _) (p := ⟨b_R, 1, none⟩) hwb_R _) (p := ⟨b_R, 2, none⟩) hwb_R _)
    have HK0 : Hid ((_ : World).cell? ⟨b_R, 0, none⟩ = some (.int .i64 a)) := Lib.hid (kk.cell 0)
    have HK1 : Hid ((_ : World).cell? ⟨b_R, 1, none⟩ = some (.int .i64 b)) := Lib.hid (kk.cell 1)
    have HK2 : Hid ((_ : World).cell? ⟨b_R, 2, none⟩ = some (.int .i64 c)) := Lib.hid (kk.cell 2)
    clear kk
    go_wp2_with (first | (go_at_call 49; refine (sIn _ _ _ _).mono ?_; rintro e w' ⟨rfl, rfl⟩) | (go_at_call 83; refine (iIn _ _ _ _).mono ?_; rintro e w' ⟨rfl, rfl⟩))
    have hk0 := HK0.out
    have hk1 := HK1.out
    have hk2 := HK2.out
    exact bodyPost_ret (v := .tuple #[.agg #[.int .i64 a, .int .i64 b, .int .i64 c], .int .i64 0, .int .i64 0, .int .i64 0, .bool false]) (by simp [results, Try.results100, go_sem, hk0, hk1, hk2]) rfl (Val.mk' (by rw [HV.out]; rfl) i9)
  have hnb1 := NB_E_R.out
  have hnb2 := NB_R_N.out
  have HV : Hid (evR a b c 1 n = ⟨a + n, b, c, n, 0, 0, true⟩) := Lib.hid (by simp [evR, h1, h2, h3])
  have kk : Blk (((w_3.setCell ⟨b_R, 0, none⟩ (.int .i64 (a + n))).setCell ⟨b_R, 1, none⟩ (.int .i64 b)).setCell ⟨b_R, 2, none⟩ (.int .i64 c)).drew b_R 41 #[.int .i64 (a + n), .int .i64 b, .int .i64 c] := by
    have h := ((((k_3_R.set_ 0 (.int .i64 (a + n))).set_ 1 (.int .i64 b)).set_ 2 (.int .i64 c))).drew
    simpa using h
  have i9 : In w.heap.size w (((w_3.setCell ⟨b_R, 0, none⟩ (.int .i64 (a + n))).setCell ⟨b_R, 1, none⟩ (.int .i64 b)).setCell ⟨b_R, 2, none⟩ (.int .i64 c)).drew := ((In.set_ (In.set_ (In.set_ i_3 (p := ⟨b_R, 0, none⟩) hwb_R _) (p := ⟨b_R, 1, none⟩) hwb_R _) (p := ⟨b_R, 2, none⟩) hwb_R _)).drew
  have HK0 : Hid ((((w_3.setCell ⟨b_R, 0, none⟩ (.int .i64 (a + n))).setCell ⟨b_R, 1, none⟩ (.int .i64 b)).setCell ⟨b_R, 2, none⟩ (.int .i64 c)).drew.cell? ⟨b_R, 0, none⟩ = some (.int .i64 (a + n))) := Lib.hid (kk.cell 0)
  have HK1 : Hid ((((w_3.setCell ⟨b_R, 0, none⟩ (.int .i64 (a + n))).setCell ⟨b_R, 1, none⟩ (.int .i64 b)).setCell ⟨b_R, 2, none⟩ (.int .i64 c)).drew.cell? ⟨b_R, 1, none⟩ = some (.int .i64 b)) := Lib.hid (kk.cell 1)
  have HK2 : Hid ((((w_3.setCell ⟨b_R, 0, none⟩ (.int .i64 (a + n))).setCell ⟨b_R, 1, none⟩ (.int .i64 b)).setCell ⟨b_R, 2, none⟩ (.int .i64 c)).drew.cell? ⟨b_R, 2, none⟩ = some (.int .i64 c)) := Lib.hid (kk.cell 2)
  clear kk
  go_wp2_with (first | (go_at_call 49; refine (sIn _ _ _ _).mono ?_; rintro e w' ⟨rfl, rfl⟩) | (go_at_call 83; refine (iIn _ _ _ _).mono ?_; rintro e w' ⟨rfl, rfl⟩))
  go_region
  go_wp2
  have hk0 := HK0.out
  have hk1 := HK1.out
  have hk2 := HK2.out
  exact bodyPost_ret (v := .tuple #[.agg #[.int .i64 (a + n), .int .i64 b, .int .i64 c], .int .i64 n, .int .i64 0, .int .i64 0, .bool true]) (by simp [results, Try.results100, go_sem, hk0, hk1, hk2]) rfl (Val.mk' (by rw [HV.out]; rfl) i9)
set_option maxHeartbeats 4000000 in
theorem sEv2 (a b c n : Int) (w : World) (h1 : rackB a b c = true) (h2 : inB n 0 1000 = true) : Calls Try.prog 100 #[.agg #[.int .i64 a, .int .i64 b, .int .i64 c], .agg #[.int .i64 2, .int .i64 n]] w (Val (evT (evR a b c 2 n)) w) := by
  obtain ⟨b_A, hbx_A⟩ : ∃ b, b = w.heap.size := ⟨_, rfl⟩
  have kk_A : Blk (((w.alloc (.cells #[.int .i64 a, .int .i64 b, .int .i64 c] 41)).alloc (.cells #[.int .i64 2, .int .i64 n] 78)).alloc (.cells #[.int .i64 0, .int .i64 0, .int .i64 0] 41)) b_A 41 #[.int .i64 a, .int .i64 b, .int .i64 c] := (((Blk.new' (w := w) (t := 41) (cs := #[.int .i64 a, .int .i64 b, .int .i64 c]) (g := b_A) (by simp [hbx_A])).alloc (.cells #[.int .i64 2, .int .i64 n] 78)).alloc (.cells #[.int .i64 0, .int .i64 0, .int .i64 0] 41))
  have hwb_A : w.heap.size ≤ b_A := by omega
  obtain ⟨b_E, hbx_E⟩ : ∃ b, b = w.heap.size + 1 := ⟨_, rfl⟩
  have kk_E : Blk (((w.alloc (.cells #[.int .i64 a, .int .i64 b, .int .i64 c] 41)).alloc (.cells #[.int .i64 2, .int .i64 n] 78)).alloc (.cells #[.int .i64 0, .int .i64 0, .int .i64 0] 41)) b_E 78 #[.int .i64 2, .int .i64 n] := ((Blk.new' (w := (w.alloc (.cells #[.int .i64 a, .int .i64 b, .int .i64 c] 41))) (t := 78) (cs := #[.int .i64 2, .int .i64 n]) (g := b_E) (by simp [hbx_E])).alloc (.cells #[.int .i64 0, .int .i64 0, .int .i64 0] 41))
  have hwb_E : w.heap.size ≤ b_E := by omega
  obtain ⟨b_R, hbx_R⟩ : ∃ b, b = w.heap.size + 1 + 1 := ⟨_, rfl⟩
  have kk_R : Blk (((w.alloc (.cells #[.int .i64 a, .int .i64 b, .int .i64 c] 41)).alloc (.cells #[.int .i64 2, .int .i64 n] 78)).alloc (.cells #[.int .i64 0, .int .i64 0, .int .i64 0] 41)) b_R 41 #[.int .i64 0, .int .i64 0, .int .i64 0] := (Blk.new' (w := ((w.alloc (.cells #[.int .i64 a, .int .i64 b, .int .i64 c] 41)).alloc (.cells #[.int .i64 2, .int .i64 n] 78))) (t := 41) (cs := #[.int .i64 0, .int .i64 0, .int .i64 0]) (g := b_R) (by simp [hbx_R]))
  have hwb_R : w.heap.size ≤ b_R := by omega
  have NB_A_E : Hid (b_A ≠ b_E) := Lib.hid (by omega)
  have NB_A_R : Hid (b_A ≠ b_R) := Lib.hid (by omega)
  have NB_E_R : Hid (b_E ≠ b_R) := Lib.hid (by omega)
  have hb_0 : Below w.heap.size w (((w.alloc (.cells #[.int .i64 a, .int .i64 b, .int .i64 c] 41)).alloc (.cells #[.int .i64 2, .int .i64 n] 78)).alloc (.cells #[.int .i64 0, .int .i64 0, .int .i64 0] 41)) := by
    have h : In w.heap.size w (((w.alloc (.cells #[.int .i64 a, .int .i64 b, .int .i64 c] 41)).alloc (.cells #[.int .i64 2, .int .i64 n] 78)).alloc (.cells #[.int .i64 0, .int .i64 0, .int .i64 0] 41)) := by (repeat (first | exact In.refl _ | assumption | apply In.alloc | apply In.drewN | apply In.drew | (refine In.step ?_ (by assumption))))
    exact h.below
  go_enter Try.func100, Try.ntmps100
  go_wp2_with fail
  rw [← hbx_R]
  clear hbx_R
  rw [← hbx_E]
  clear hbx_E
  rw [← hbx_A]
  clear hbx_A
  generalize (((w.alloc (.cells #[.int .i64 a, .int .i64 b, .int .i64 c] 41)).alloc (.cells #[.int .i64 2, .int .i64 n] 78)).alloc (.cells #[.int .i64 0, .int .i64 0, .int .i64 0] 41)) = w_0 at *
  have i_0 : In w.heap.size w w_0 := In.step (by (repeat (first | exact In.refl _ | assumption | apply In.alloc | apply In.drewN | apply In.drew | (refine In.step ?_ (by assumption))))) hb_0
  have k_0_A : Blk w_0 b_A 41 #[.int .i64 a, .int .i64 b, .int .i64 c] := kk_A
  obtain ⟨c_0_A_0, c_0_A_1, c_0_A_2⟩ := cells3 k_0_A
  have l_0_A := k_0_A.lt
  have k_0_E : Blk w_0 b_E 78 #[.int .i64 2, .int .i64 n] := kk_E
  obtain ⟨c_0_E_0, c_0_E_1⟩ := cells2 k_0_E
  have l_0_E := k_0_E.lt
  have k_0_R : Blk w_0 b_R 41 #[.int .i64 0, .int .i64 0, .int .i64 0] := kk_R
  obtain ⟨c_0_R_0, c_0_R_1, c_0_R_2⟩ := cells3 k_0_R
  have l_0_R := k_0_R.lt
  have z_0_R_0 := k_0_R.frozen 0
  have z_0_R_1 := k_0_R.frozen 1
  have z_0_R_2 := k_0_R.frozen 2
  clear kk_A kk_E kk_R
  go_wp2_with fail
  refine (sRackOk a b c _).mono ?_
  rintro _ w_1 ⟨rfl, hb_1⟩
  rw [h1]
  have i_1 : In w.heap.size w w_1 := In.step (by (repeat (first | exact In.refl _ | assumption | apply In.alloc | apply In.drewN | apply In.drew | (refine In.step ?_ (by assumption))))) hb_1
  have k_1_A : Blk w_1 b_A 41 #[.int .i64 a, .int .i64 b, .int .i64 c] := Blk.step (by (with_reducible (repeat (first | assumption | exact Blk.new' (by simp) | apply Blk.drewN | apply Blk.drew | apply Blk.alloc | (refine Blk.far ?_ (by (try simp) <;> omega) _))))) hb_1
  obtain ⟨c_1_A_0, c_1_A_1, c_1_A_2⟩ := cells3 k_1_A
  have l_1_A := k_1_A.lt
  have k_1_E : Blk w_1 b_E 78 #[.int .i64 2, .int .i64 n] := Blk.step (by (with_reducible (repeat (first | assumption | exact Blk.new' (by simp) | apply Blk.drewN | apply Blk.drew | apply Blk.alloc | (refine Blk.far ?_ (by (try simp) <;> omega) _))))) hb_1
  obtain ⟨c_1_E_0, c_1_E_1⟩ := cells2 k_1_E
  have l_1_E := k_1_E.lt
  have k_1_R : Blk w_1 b_R 41 #[.int .i64 0, .int .i64 0, .int .i64 0] := Blk.step (by (with_reducible (repeat (first | assumption | exact Blk.new' (by simp) | apply Blk.drewN | apply Blk.drew | apply Blk.alloc | (refine Blk.far ?_ (by (try simp) <;> omega) _))))) hb_1
  obtain ⟨c_1_R_0, c_1_R_1, c_1_R_2⟩ := cells3 k_1_R
  have l_1_R := k_1_R.lt
  have z_1_R_0 := k_1_R.frozen 0
  have z_1_R_1 := k_1_R.frozen 1
  have z_1_R_2 := k_1_R.frozen 2
  clear i_0 k_0_A c_0_A_0 c_0_A_1 c_0_A_2 l_0_A k_0_E c_0_E_0 c_0_E_1 l_0_E k_0_R c_0_R_0 c_0_R_1 c_0_R_2 l_0_R z_0_R_0 z_0_R_1 z_0_R_2 hb_0
  obtain ⟨r1, r2, r3, r4, r5, r6⟩ := rack_in h1
  obtain ⟨n1, n2⟩ := inB_tt h2
  have hsb : sellB a b c n = true := by simp [sellB, h1, inB]; omega
  have hfv : freshV a b c n = .tuple #[.agg #[.int .i64 (a - min n a), .int .i64 (b - min (n - min n a) b), .int .i64 c], .int .i64 (min n a + min (n - min n a) b)] := by simp [freshV, hsb]
  go_wp2_with (first | (go_at_call 49; refine (sIn _ _ _ _).mono ?_; rintro e w' ⟨rfl, rfl⟩) | (go_at_call 83; refine (iIn _ _ _ _).mono ?_; rintro e w' ⟨rfl, rfl⟩))
  refine (sSellFresh a b c n _).mono ?_
  rintro _ w_2 ⟨rfl, hb_2⟩
  rw [hfv]
  clear hfv
  have i_2 : In w.heap.size w w_2 := In.step (by (repeat (first | exact In.refl _ | assumption | apply In.alloc | apply In.drewN | apply In.drew | (refine In.step ?_ (by assumption))))) hb_2
  have k_2_A : Blk w_2 b_A 41 #[.int .i64 a, .int .i64 b, .int .i64 c] := Blk.step (by (with_reducible (repeat (first | assumption | exact Blk.new' (by simp) | apply Blk.drewN | apply Blk.drew | apply Blk.alloc | (refine Blk.far ?_ (by (try simp) <;> omega) _))))) hb_2
  obtain ⟨c_2_A_0, c_2_A_1, c_2_A_2⟩ := cells3 k_2_A
  have l_2_A := k_2_A.lt
  have k_2_E : Blk w_2 b_E 78 #[.int .i64 2, .int .i64 n] := Blk.step (by (with_reducible (repeat (first | assumption | exact Blk.new' (by simp) | apply Blk.drewN | apply Blk.drew | apply Blk.alloc | (refine Blk.far ?_ (by (try simp) <;> omega) _))))) hb_2
  obtain ⟨c_2_E_0, c_2_E_1⟩ := cells2 k_2_E
  have l_2_E := k_2_E.lt
  have k_2_R : Blk w_2 b_R 41 #[.int .i64 0, .int .i64 0, .int .i64 0] := Blk.step (by (with_reducible (repeat (first | assumption | exact Blk.new' (by simp) | apply Blk.drewN | apply Blk.drew | apply Blk.alloc | (refine Blk.far ?_ (by (try simp) <;> omega) _))))) hb_2
  obtain ⟨c_2_R_0, c_2_R_1, c_2_R_2⟩ := cells3 k_2_R
  have l_2_R := k_2_R.lt
  have z_2_R_0 := k_2_R.frozen 0
  have z_2_R_1 := k_2_R.frozen 1
  have z_2_R_2 := k_2_R.frozen 2
  clear i_1 k_1_A c_1_A_0 c_1_A_1 c_1_A_2 l_1_A k_1_E c_1_E_0 c_1_E_1 l_1_E k_1_R c_1_R_0 c_1_R_1 c_1_R_2 l_1_R z_1_R_0 z_1_R_1 z_1_R_2 hb_1
  have hrk : rackB (a - min n a) (b - min (n - min n a) b) (c) = true := rack_of (by omega)
  have hv1 : min n a + min (n - min n a) b = n → evR a b c 2 n = ⟨a - min n a, b - min (n - min n a) b, c, 0, n, 0, true⟩ := fun h => by simp [evR, h1, h2, h]
  have hv2 : ¬ min n a + min (n - min n a) b = n → evR a b c 2 n = ⟨a, b, c, 0, 0, 0, false⟩ := fun h => by simp [evR, h1, h2, h]
  generalize min n a + min (n - min n a) b = m at *
  generalize a - min n a = x at *
  generalize b - min (n - min n a) b = y at *
  by_cases hm : m = n
  · have HV := Lib.hid (hv1 hm)
    subst hm
    clear hv1 hv2
    have kk : Blk ((((w_2.setCell ⟨b_R, 0, none⟩ (.int .i64 x)).setCell ⟨b_R, 1, none⟩ (.int .i64 y)).setCell ⟨b_R, 2, none⟩ (.int .i64 c)).alloc (.cells #[.int .i64 x, .int .i64 y, .int .i64 c] 41)) b_R 41 #[.int .i64 x, .int .i64 y, .int .i64 c] := by
      have h := (((k_2_R.set_ 0 (.int .i64 x)).set_ 1 (.int .i64 y)).set_ 2 (.int .i64 c)).alloc (.cells #[.int .i64 x, .int .i64 y, .int .i64 c] 41)
      simpa using h
    have i9 : In w.heap.size w ((((w_2.setCell ⟨b_R, 0, none⟩ (.int .i64 x)).setCell ⟨b_R, 1, none⟩ (.int .i64 y)).setCell ⟨b_R, 2, none⟩ (.int .i64 c)).alloc (.cells #[.int .i64 x, .int .i64 y, .int .i64 c] 41)) := ((In.set_ (In.set_ (In.set_ i_2 (p := ⟨b_R, 0, none⟩) hwb_R _) (p := ⟨b_R, 1, none⟩) hwb_R _) (p := ⟨b_R, 2, none⟩) hwb_R _)).alloc _
    have HK0 : Hid ((_ : World).cell? ⟨b_R, 0, none⟩ = some (.int .i64 x)) := Lib.hid (kk.cell 0)
    have HK1 : Hid ((_ : World).cell? ⟨b_R, 1, none⟩ = some (.int .i64 y)) := Lib.hid (kk.cell 1)
    have HK2 : Hid ((_ : World).cell? ⟨b_R, 2, none⟩ = some (.int .i64 c)) := Lib.hid (kk.cell 2)
    clear kk
    go_wp2_with (first | (go_at_call 49; refine (sIn _ _ _ _).mono ?_; rintro e w' ⟨rfl, rfl⟩) | (go_at_call 83; refine (iIn _ _ _ _).mono ?_; rintro e w' ⟨rfl, rfl⟩))
    have hk0 := HK0.out
    have hk1 := HK1.out
    have hk2 := HK2.out
    exact bodyPost_ret (v := .tuple #[.agg #[.int .i64 x, .int .i64 y, .int .i64 c], .int .i64 0, .int .i64 m, .int .i64 0, .bool true]) (by simp [results, Try.results100, go_sem, hk0, hk1, hk2]) rfl (Val.mk' (by rw [HV.out]; rfl) i9)
  · have HV := Lib.hid (hv2 hm)
    have hmb : (m == n) = false := by simpa using hm
    clear hv1 hv2
    have kk : Blk ((((w_2.setCell ⟨b_R, 0, none⟩ (.int .i64 a)).setCell ⟨b_R, 1, none⟩ (.int .i64 b)).setCell ⟨b_R, 2, none⟩ (.int .i64 c)).alloc (.cells #[.int .i64 x, .int .i64 y, .int .i64 c] 41)) b_R 41 #[.int .i64 a, .int .i64 b, .int .i64 c] := by
      have h := (((k_2_R.set_ 0 (.int .i64 a)).set_ 1 (.int .i64 b)).set_ 2 (.int .i64 c)).alloc (.cells #[.int .i64 x, .int .i64 y, .int .i64 c] 41)
      simpa using h
    have i9 : In w.heap.size w ((((w_2.setCell ⟨b_R, 0, none⟩ (.int .i64 a)).setCell ⟨b_R, 1, none⟩ (.int .i64 b)).setCell ⟨b_R, 2, none⟩ (.int .i64 c)).alloc (.cells #[.int .i64 x, .int .i64 y, .int .i64 c] 41)) := ((In.set_ (In.set_ (In.set_ i_2 (p := ⟨b_R, 0, none⟩) hwb_R _) (p := ⟨b_R, 1, none⟩) hwb_R _) (p := ⟨b_R, 2, none⟩) hwb_R _)).alloc _
    have HK0 : Hid ((_ : World).cell? ⟨b_R, 0, none⟩ = some (.int .i64 a)) := Lib.hid (kk.cell 0)
    have HK1 : Hid ((_ : World).cell? ⟨b_R, 1, none⟩ = some (.int .i64 b)) := Lib.hid (kk.cell 1)
    have HK2 : Hid ((_ : World).cell? ⟨b_R, 2, none⟩ = some (.int .i64 c)) := Lib.hid (kk.cell 2)
    clear kk
    go_wp2_with (first | (go_at_call 49; refine (sIn _ _ _ _).mono ?_; rintro e w' ⟨rfl, rfl⟩) | (go_at_call 83; refine (iIn _ _ _ _).mono ?_; rintro e w' ⟨rfl, rfl⟩))
    have hk0 := HK0.out
    have hk1 := HK1.out
    have hk2 := HK2.out
    exact bodyPost_ret (v := .tuple #[.agg #[.int .i64 a, .int .i64 b, .int .i64 c], .int .i64 0, .int .i64 0, .int .i64 0, .bool false]) (by simp [results, Try.results100, go_sem, hk0, hk1, hk2]) rfl (Val.mk' (by rw [HV.out]; rfl) i9)
set_option maxHeartbeats 4000000 in
theorem sEv3 (a b c n : Int) (w : World) (h1 : rackB a b c = true) (h2 : inB n 0 1000 = true) : Calls Try.prog 100 #[.agg #[.int .i64 a, .int .i64 b, .int .i64 c], .agg #[.int .i64 3, .int .i64 n]] w (Val (evT (evR a b c 3 n)) w) := by
  obtain ⟨b_A, hbx_A⟩ : ∃ b, b = w.heap.size := ⟨_, rfl⟩
  have kk_A : Blk (((w.alloc (.cells #[.int .i64 a, .int .i64 b, .int .i64 c] 41)).alloc (.cells #[.int .i64 3, .int .i64 n] 78)).alloc (.cells #[.int .i64 0, .int .i64 0, .int .i64 0] 41)) b_A 41 #[.int .i64 a, .int .i64 b, .int .i64 c] := (((Blk.new' (w := w) (t := 41) (cs := #[.int .i64 a, .int .i64 b, .int .i64 c]) (g := b_A) (by simp [hbx_A])).alloc (.cells #[.int .i64 3, .int .i64 n] 78)).alloc (.cells #[.int .i64 0, .int .i64 0, .int .i64 0] 41))
  have hwb_A : w.heap.size ≤ b_A := by omega
  obtain ⟨b_E, hbx_E⟩ : ∃ b, b = w.heap.size + 1 := ⟨_, rfl⟩
  have kk_E : Blk (((w.alloc (.cells #[.int .i64 a, .int .i64 b, .int .i64 c] 41)).alloc (.cells #[.int .i64 3, .int .i64 n] 78)).alloc (.cells #[.int .i64 0, .int .i64 0, .int .i64 0] 41)) b_E 78 #[.int .i64 3, .int .i64 n] := ((Blk.new' (w := (w.alloc (.cells #[.int .i64 a, .int .i64 b, .int .i64 c] 41))) (t := 78) (cs := #[.int .i64 3, .int .i64 n]) (g := b_E) (by simp [hbx_E])).alloc (.cells #[.int .i64 0, .int .i64 0, .int .i64 0] 41))
  have hwb_E : w.heap.size ≤ b_E := by omega
  obtain ⟨b_R, hbx_R⟩ : ∃ b, b = w.heap.size + 1 + 1 := ⟨_, rfl⟩
  have kk_R : Blk (((w.alloc (.cells #[.int .i64 a, .int .i64 b, .int .i64 c] 41)).alloc (.cells #[.int .i64 3, .int .i64 n] 78)).alloc (.cells #[.int .i64 0, .int .i64 0, .int .i64 0] 41)) b_R 41 #[.int .i64 0, .int .i64 0, .int .i64 0] := (Blk.new' (w := ((w.alloc (.cells #[.int .i64 a, .int .i64 b, .int .i64 c] 41)).alloc (.cells #[.int .i64 3, .int .i64 n] 78))) (t := 41) (cs := #[.int .i64 0, .int .i64 0, .int .i64 0]) (g := b_R) (by simp [hbx_R]))
  have hwb_R : w.heap.size ≤ b_R := by omega
  have NB_A_E : Hid (b_A ≠ b_E) := Lib.hid (by omega)
  have NB_A_R : Hid (b_A ≠ b_R) := Lib.hid (by omega)
  have NB_E_R : Hid (b_E ≠ b_R) := Lib.hid (by omega)
  have hb_0 : Below w.heap.size w (((w.alloc (.cells #[.int .i64 a, .int .i64 b, .int .i64 c] 41)).alloc (.cells #[.int .i64 3, .int .i64 n] 78)).alloc (.cells #[.int .i64 0, .int .i64 0, .int .i64 0] 41)) := by
    have h : In w.heap.size w (((w.alloc (.cells #[.int .i64 a, .int .i64 b, .int .i64 c] 41)).alloc (.cells #[.int .i64 3, .int .i64 n] 78)).alloc (.cells #[.int .i64 0, .int .i64 0, .int .i64 0] 41)) := by (repeat (first | exact In.refl _ | assumption | apply In.alloc | apply In.drewN | apply In.drew | (refine In.step ?_ (by assumption))))
    exact h.below
  go_enter Try.func100, Try.ntmps100
  go_wp2_with fail
  rw [← hbx_R]
  clear hbx_R
  rw [← hbx_E]
  clear hbx_E
  rw [← hbx_A]
  clear hbx_A
  generalize (((w.alloc (.cells #[.int .i64 a, .int .i64 b, .int .i64 c] 41)).alloc (.cells #[.int .i64 3, .int .i64 n] 78)).alloc (.cells #[.int .i64 0, .int .i64 0, .int .i64 0] 41)) = w_0 at *
  have i_0 : In w.heap.size w w_0 := In.step (by (repeat (first | exact In.refl _ | assumption | apply In.alloc | apply In.drewN | apply In.drew | (refine In.step ?_ (by assumption))))) hb_0
  have k_0_A : Blk w_0 b_A 41 #[.int .i64 a, .int .i64 b, .int .i64 c] := kk_A
  obtain ⟨c_0_A_0, c_0_A_1, c_0_A_2⟩ := cells3 k_0_A
  have l_0_A := k_0_A.lt
  have k_0_E : Blk w_0 b_E 78 #[.int .i64 3, .int .i64 n] := kk_E
  obtain ⟨c_0_E_0, c_0_E_1⟩ := cells2 k_0_E
  have l_0_E := k_0_E.lt
  have k_0_R : Blk w_0 b_R 41 #[.int .i64 0, .int .i64 0, .int .i64 0] := kk_R
  obtain ⟨c_0_R_0, c_0_R_1, c_0_R_2⟩ := cells3 k_0_R
  have l_0_R := k_0_R.lt
  have z_0_R_0 := k_0_R.frozen 0
  have z_0_R_1 := k_0_R.frozen 1
  have z_0_R_2 := k_0_R.frozen 2
  clear kk_A kk_E kk_R
  go_wp2_with fail
  refine (sRackOk a b c _).mono ?_
  rintro _ w_1 ⟨rfl, hb_1⟩
  rw [h1]
  have i_1 : In w.heap.size w w_1 := In.step (by (repeat (first | exact In.refl _ | assumption | apply In.alloc | apply In.drewN | apply In.drew | (refine In.step ?_ (by assumption))))) hb_1
  have k_1_A : Blk w_1 b_A 41 #[.int .i64 a, .int .i64 b, .int .i64 c] := Blk.step (by (with_reducible (repeat (first | assumption | exact Blk.new' (by simp) | apply Blk.drewN | apply Blk.drew | apply Blk.alloc | (refine Blk.far ?_ (by (try simp) <;> omega) _))))) hb_1
  obtain ⟨c_1_A_0, c_1_A_1, c_1_A_2⟩ := cells3 k_1_A
  have l_1_A := k_1_A.lt
  have k_1_E : Blk w_1 b_E 78 #[.int .i64 3, .int .i64 n] := Blk.step (by (with_reducible (repeat (first | assumption | exact Blk.new' (by simp) | apply Blk.drewN | apply Blk.drew | apply Blk.alloc | (refine Blk.far ?_ (by (try simp) <;> omega) _))))) hb_1
  obtain ⟨c_1_E_0, c_1_E_1⟩ := cells2 k_1_E
  have l_1_E := k_1_E.lt
  have k_1_R : Blk w_1 b_R 41 #[.int .i64 0, .int .i64 0, .int .i64 0] := Blk.step (by (with_reducible (repeat (first | assumption | exact Blk.new' (by simp) | apply Blk.drewN | apply Blk.drew | apply Blk.alloc | (refine Blk.far ?_ (by (try simp) <;> omega) _))))) hb_1
  obtain ⟨c_1_R_0, c_1_R_1, c_1_R_2⟩ := cells3 k_1_R
  have l_1_R := k_1_R.lt
  have z_1_R_0 := k_1_R.frozen 0
  have z_1_R_1 := k_1_R.frozen 1
  have z_1_R_2 := k_1_R.frozen 2
  clear i_0 k_0_A c_0_A_0 c_0_A_1 c_0_A_2 l_0_A k_0_E c_0_E_0 c_0_E_1 l_0_E k_0_R c_0_R_0 c_0_R_1 c_0_R_2 l_0_R z_0_R_0 z_0_R_1 z_0_R_2 hb_0
  obtain ⟨r1, r2, r3, r4, r5, r6⟩ := rack_in h1
  obtain ⟨n1, n2⟩ := inB_tt h2
  have hsb : sellB a b c n = true := by simp [sellB, h1, inB]; omega
  have hfv : cheapV a b c n = .tuple #[.agg #[.int .i64 a, .int .i64 (b - min (n - min n c) b), .int .i64 (c - min n c)], .int .i64 (min n c + min (n - min n c) b)] := by simp [cheapV, hsb]
  go_wp2_with (first | (go_at_call 49; refine (sIn _ _ _ _).mono ?_; rintro e w' ⟨rfl, rfl⟩) | (go_at_call 83; refine (iIn _ _ _ _).mono ?_; rintro e w' ⟨rfl, rfl⟩))
  refine (sSellCheap a b c n _).mono ?_
  rintro _ w_2 ⟨rfl, hb_2⟩
  rw [hfv]
  clear hfv
  have i_2 : In w.heap.size w w_2 := In.step (by (repeat (first | exact In.refl _ | assumption | apply In.alloc | apply In.drewN | apply In.drew | (refine In.step ?_ (by assumption))))) hb_2
  have k_2_A : Blk w_2 b_A 41 #[.int .i64 a, .int .i64 b, .int .i64 c] := Blk.step (by (with_reducible (repeat (first | assumption | exact Blk.new' (by simp) | apply Blk.drewN | apply Blk.drew | apply Blk.alloc | (refine Blk.far ?_ (by (try simp) <;> omega) _))))) hb_2
  obtain ⟨c_2_A_0, c_2_A_1, c_2_A_2⟩ := cells3 k_2_A
  have l_2_A := k_2_A.lt
  have k_2_E : Blk w_2 b_E 78 #[.int .i64 3, .int .i64 n] := Blk.step (by (with_reducible (repeat (first | assumption | exact Blk.new' (by simp) | apply Blk.drewN | apply Blk.drew | apply Blk.alloc | (refine Blk.far ?_ (by (try simp) <;> omega) _))))) hb_2
  obtain ⟨c_2_E_0, c_2_E_1⟩ := cells2 k_2_E
  have l_2_E := k_2_E.lt
  have k_2_R : Blk w_2 b_R 41 #[.int .i64 0, .int .i64 0, .int .i64 0] := Blk.step (by (with_reducible (repeat (first | assumption | exact Blk.new' (by simp) | apply Blk.drewN | apply Blk.drew | apply Blk.alloc | (refine Blk.far ?_ (by (try simp) <;> omega) _))))) hb_2
  obtain ⟨c_2_R_0, c_2_R_1, c_2_R_2⟩ := cells3 k_2_R
  have l_2_R := k_2_R.lt
  have z_2_R_0 := k_2_R.frozen 0
  have z_2_R_1 := k_2_R.frozen 1
  have z_2_R_2 := k_2_R.frozen 2
  clear i_1 k_1_A c_1_A_0 c_1_A_1 c_1_A_2 l_1_A k_1_E c_1_E_0 c_1_E_1 l_1_E k_1_R c_1_R_0 c_1_R_1 c_1_R_2 l_1_R z_1_R_0 z_1_R_1 z_1_R_2 hb_1
  have hrk : rackB (a) (b - min (n - min n c) b) (c - min n c) = true := rack_of (by omega)
  have hv1 : min n c + min (n - min n c) b = n → evR a b c 3 n = ⟨a, b - min (n - min n c) b, c - min n c, 0, n, 0, true⟩ := fun h => by simp [evR, h1, h2, h]
  have hv2 : ¬ min n c + min (n - min n c) b = n → evR a b c 3 n = ⟨a, b, c, 0, 0, 0, false⟩ := fun h => by simp [evR, h1, h2, h]
  generalize min n c + min (n - min n c) b = m at *
  generalize c - min n c = x at *
  generalize b - min (n - min n c) b = y at *
  by_cases hm : m = n
  · have HV := Lib.hid (hv1 hm)
    subst hm
    clear hv1 hv2
    have kk : Blk ((((w_2.setCell ⟨b_R, 0, none⟩ (.int .i64 a)).setCell ⟨b_R, 1, none⟩ (.int .i64 y)).setCell ⟨b_R, 2, none⟩ (.int .i64 x)).alloc (.cells #[.int .i64 a, .int .i64 y, .int .i64 x] 41)) b_R 41 #[.int .i64 a, .int .i64 y, .int .i64 x] := by
      have h := (((k_2_R.set_ 0 (.int .i64 a)).set_ 1 (.int .i64 y)).set_ 2 (.int .i64 x)).alloc (.cells #[.int .i64 a, .int .i64 y, .int .i64 x] 41)
      simpa using h
    have i9 : In w.heap.size w ((((w_2.setCell ⟨b_R, 0, none⟩ (.int .i64 a)).setCell ⟨b_R, 1, none⟩ (.int .i64 y)).setCell ⟨b_R, 2, none⟩ (.int .i64 x)).alloc (.cells #[.int .i64 a, .int .i64 y, .int .i64 x] 41)) := ((In.set_ (In.set_ (In.set_ i_2 (p := ⟨b_R, 0, none⟩) hwb_R _) (p := ⟨b_R, 1, none⟩) hwb_R _) (p := ⟨b_R, 2, none⟩) hwb_R _)).alloc _
    have HK0 : Hid ((_ : World).cell? ⟨b_R, 0, none⟩ = some (.int .i64 a)) := Lib.hid (kk.cell 0)
    have HK1 : Hid ((_ : World).cell? ⟨b_R, 1, none⟩ = some (.int .i64 y)) := Lib.hid (kk.cell 1)
    have HK2 : Hid ((_ : World).cell? ⟨b_R, 2, none⟩ = some (.int .i64 x)) := Lib.hid (kk.cell 2)
    clear kk
    go_wp2_with (first | (go_at_call 49; refine (sIn _ _ _ _).mono ?_; rintro e w' ⟨rfl, rfl⟩) | (go_at_call 83; refine (iIn _ _ _ _).mono ?_; rintro e w' ⟨rfl, rfl⟩))
    have hk0 := HK0.out
    have hk1 := HK1.out
    have hk2 := HK2.out
    exact bodyPost_ret (v := .tuple #[.agg #[.int .i64 a, .int .i64 y, .int .i64 x], .int .i64 0, .int .i64 m, .int .i64 0, .bool true]) (by simp [results, Try.results100, go_sem, hk0, hk1, hk2]) rfl (Val.mk' (by rw [HV.out]; rfl) i9)
  · have HV := Lib.hid (hv2 hm)
    have hmb : (m == n) = false := by simpa using hm
    clear hv1 hv2
    have kk : Blk ((((w_2.setCell ⟨b_R, 0, none⟩ (.int .i64 a)).setCell ⟨b_R, 1, none⟩ (.int .i64 b)).setCell ⟨b_R, 2, none⟩ (.int .i64 c)).alloc (.cells #[.int .i64 a, .int .i64 y, .int .i64 x] 41)) b_R 41 #[.int .i64 a, .int .i64 b, .int .i64 c] := by
      have h := (((k_2_R.set_ 0 (.int .i64 a)).set_ 1 (.int .i64 b)).set_ 2 (.int .i64 c)).alloc (.cells #[.int .i64 a, .int .i64 y, .int .i64 x] 41)
      simpa using h
    have i9 : In w.heap.size w ((((w_2.setCell ⟨b_R, 0, none⟩ (.int .i64 a)).setCell ⟨b_R, 1, none⟩ (.int .i64 b)).setCell ⟨b_R, 2, none⟩ (.int .i64 c)).alloc (.cells #[.int .i64 a, .int .i64 y, .int .i64 x] 41)) := ((In.set_ (In.set_ (In.set_ i_2 (p := ⟨b_R, 0, none⟩) hwb_R _) (p := ⟨b_R, 1, none⟩) hwb_R _) (p := ⟨b_R, 2, none⟩) hwb_R _)).alloc _
    have HK0 : Hid ((_ : World).cell? ⟨b_R, 0, none⟩ = some (.int .i64 a)) := Lib.hid (kk.cell 0)
    have HK1 : Hid ((_ : World).cell? ⟨b_R, 1, none⟩ = some (.int .i64 b)) := Lib.hid (kk.cell 1)
    have HK2 : Hid ((_ : World).cell? ⟨b_R, 2, none⟩ = some (.int .i64 c)) := Lib.hid (kk.cell 2)
    clear kk
    go_wp2_with (first | (go_at_call 49; refine (sIn _ _ _ _).mono ?_; rintro e w' ⟨rfl, rfl⟩) | (go_at_call 83; refine (iIn _ _ _ _).mono ?_; rintro e w' ⟨rfl, rfl⟩))
    have hk0 := HK0.out
    have hk1 := HK1.out
    have hk2 := HK2.out
    exact bodyPost_ret (v := .tuple #[.agg #[.int .i64 a, .int .i64 b, .int .i64 c], .int .i64 0, .int .i64 0, .int .i64 0, .bool false]) (by simp [results, Try.results100, go_sem, hk0, hk1, hk2]) rfl (Val.mk' (by rw [HV.out]; rfl) i9)
set_option maxHeartbeats 4000000 in
theorem sEv4 (a b c n : Int) (w : World) (h1 : rackB a b c = true) (h2 : inB n 0 1000 = true) : Calls Try.prog 100 #[.agg #[.int .i64 a, .int .i64 b, .int .i64 c], .agg #[.int .i64 4, .int .i64 n]] w (Val (evT (evR a b c 4 n)) w) := by
  obtain ⟨b_A, hbx_A⟩ : ∃ b, b = w.heap.size := ⟨_, rfl⟩
  have kk_A : Blk (((w.alloc (.cells #[.int .i64 a, .int .i64 b, .int .i64 c] 41)).alloc (.cells #[.int .i64 4, .int .i64 n] 78)).alloc (.cells #[.int .i64 0, .int .i64 0, .int .i64 0] 41)) b_A 41 #[.int .i64 a, .int .i64 b, .int .i64 c] := (((Blk.new' (w := w) (t := 41) (cs := #[.int .i64 a, .int .i64 b, .int .i64 c]) (g := b_A) (by simp [hbx_A])).alloc (.cells #[.int .i64 4, .int .i64 n] 78)).alloc (.cells #[.int .i64 0, .int .i64 0, .int .i64 0] 41))
  have hwb_A : w.heap.size ≤ b_A := by omega
  obtain ⟨b_E, hbx_E⟩ : ∃ b, b = w.heap.size + 1 := ⟨_, rfl⟩
  have kk_E : Blk (((w.alloc (.cells #[.int .i64 a, .int .i64 b, .int .i64 c] 41)).alloc (.cells #[.int .i64 4, .int .i64 n] 78)).alloc (.cells #[.int .i64 0, .int .i64 0, .int .i64 0] 41)) b_E 78 #[.int .i64 4, .int .i64 n] := ((Blk.new' (w := (w.alloc (.cells #[.int .i64 a, .int .i64 b, .int .i64 c] 41))) (t := 78) (cs := #[.int .i64 4, .int .i64 n]) (g := b_E) (by simp [hbx_E])).alloc (.cells #[.int .i64 0, .int .i64 0, .int .i64 0] 41))
  have hwb_E : w.heap.size ≤ b_E := by omega
  obtain ⟨b_R, hbx_R⟩ : ∃ b, b = w.heap.size + 1 + 1 := ⟨_, rfl⟩
  have kk_R : Blk (((w.alloc (.cells #[.int .i64 a, .int .i64 b, .int .i64 c] 41)).alloc (.cells #[.int .i64 4, .int .i64 n] 78)).alloc (.cells #[.int .i64 0, .int .i64 0, .int .i64 0] 41)) b_R 41 #[.int .i64 0, .int .i64 0, .int .i64 0] := (Blk.new' (w := ((w.alloc (.cells #[.int .i64 a, .int .i64 b, .int .i64 c] 41)).alloc (.cells #[.int .i64 4, .int .i64 n] 78))) (t := 41) (cs := #[.int .i64 0, .int .i64 0, .int .i64 0]) (g := b_R) (by simp [hbx_R]))
  have hwb_R : w.heap.size ≤ b_R := by omega
  have NB_A_E : Hid (b_A ≠ b_E) := Lib.hid (by omega)
  have NB_A_R : Hid (b_A ≠ b_R) := Lib.hid (by omega)
  have NB_E_R : Hid (b_E ≠ b_R) := Lib.hid (by omega)
  have hb_0 : Below w.heap.size w (((w.alloc (.cells #[.int .i64 a, .int .i64 b, .int .i64 c] 41)).alloc (.cells #[.int .i64 4, .int .i64 n] 78)).alloc (.cells #[.int .i64 0, .int .i64 0, .int .i64 0] 41)) := by
    have h : In w.heap.size w (((w.alloc (.cells #[.int .i64 a, .int .i64 b, .int .i64 c] 41)).alloc (.cells #[.int .i64 4, .int .i64 n] 78)).alloc (.cells #[.int .i64 0, .int .i64 0, .int .i64 0] 41)) := by (repeat (first | exact In.refl _ | assumption | apply In.alloc | apply In.drewN | apply In.drew | (refine In.step ?_ (by assumption))))
    exact h.below
  go_enter Try.func100, Try.ntmps100
  go_wp2_with fail
  rw [← hbx_R]
  clear hbx_R
  rw [← hbx_E]
  clear hbx_E
  rw [← hbx_A]
  clear hbx_A
  generalize (((w.alloc (.cells #[.int .i64 a, .int .i64 b, .int .i64 c] 41)).alloc (.cells #[.int .i64 4, .int .i64 n] 78)).alloc (.cells #[.int .i64 0, .int .i64 0, .int .i64 0] 41)) = w_0 at *
  have i_0 : In w.heap.size w w_0 := In.step (by (repeat (first | exact In.refl _ | assumption | apply In.alloc | apply In.drewN | apply In.drew | (refine In.step ?_ (by assumption))))) hb_0
  have k_0_A : Blk w_0 b_A 41 #[.int .i64 a, .int .i64 b, .int .i64 c] := kk_A
  obtain ⟨c_0_A_0, c_0_A_1, c_0_A_2⟩ := cells3 k_0_A
  have l_0_A := k_0_A.lt
  have k_0_E : Blk w_0 b_E 78 #[.int .i64 4, .int .i64 n] := kk_E
  obtain ⟨c_0_E_0, c_0_E_1⟩ := cells2 k_0_E
  have l_0_E := k_0_E.lt
  have k_0_R : Blk w_0 b_R 41 #[.int .i64 0, .int .i64 0, .int .i64 0] := kk_R
  obtain ⟨c_0_R_0, c_0_R_1, c_0_R_2⟩ := cells3 k_0_R
  have l_0_R := k_0_R.lt
  have z_0_R_0 := k_0_R.frozen 0
  have z_0_R_1 := k_0_R.frozen 1
  have z_0_R_2 := k_0_R.frozen 2
  clear kk_A kk_E kk_R
  go_wp2_with fail
  refine (sRackOk a b c _).mono ?_
  rintro _ w_1 ⟨rfl, hb_1⟩
  rw [h1]
  have i_1 : In w.heap.size w w_1 := In.step (by (repeat (first | exact In.refl _ | assumption | apply In.alloc | apply In.drewN | apply In.drew | (refine In.step ?_ (by assumption))))) hb_1
  have k_1_A : Blk w_1 b_A 41 #[.int .i64 a, .int .i64 b, .int .i64 c] := Blk.step (by (with_reducible (repeat (first | assumption | exact Blk.new' (by simp) | apply Blk.drewN | apply Blk.drew | apply Blk.alloc | (refine Blk.far ?_ (by (try simp) <;> omega) _))))) hb_1
  obtain ⟨c_1_A_0, c_1_A_1, c_1_A_2⟩ := cells3 k_1_A
  have l_1_A := k_1_A.lt
  have k_1_E : Blk w_1 b_E 78 #[.int .i64 4, .int .i64 n] := Blk.step (by (with_reducible (repeat (first | assumption | exact Blk.new' (by simp) | apply Blk.drewN | apply Blk.drew | apply Blk.alloc | (refine Blk.far ?_ (by (try simp) <;> omega) _))))) hb_1
  obtain ⟨c_1_E_0, c_1_E_1⟩ := cells2 k_1_E
  have l_1_E := k_1_E.lt
  have k_1_R : Blk w_1 b_R 41 #[.int .i64 0, .int .i64 0, .int .i64 0] := Blk.step (by (with_reducible (repeat (first | assumption | exact Blk.new' (by simp) | apply Blk.drewN | apply Blk.drew | apply Blk.alloc | (refine Blk.far ?_ (by (try simp) <;> omega) _))))) hb_1
  obtain ⟨c_1_R_0, c_1_R_1, c_1_R_2⟩ := cells3 k_1_R
  have l_1_R := k_1_R.lt
  have z_1_R_0 := k_1_R.frozen 0
  have z_1_R_1 := k_1_R.frozen 1
  have z_1_R_2 := k_1_R.frozen 2
  clear i_0 k_0_A c_0_A_0 c_0_A_1 c_0_A_2 l_0_A k_0_E c_0_E_0 c_0_E_1 l_0_E k_0_R c_0_R_0 c_0_R_1 c_0_R_2 l_0_R z_0_R_0 z_0_R_1 z_0_R_2 hb_0
  obtain ⟨r1, r2, r3, r4, r5, r6⟩ := rack_in h1
  obtain ⟨n1, n2⟩ := inB_tt h2
  have hsb : sellB a b c n = true := by simp [sellB, h1, inB]; omega
  have hs0 : sellB a b c 0 = true := by simp [sellB, h1, inB]
  have hfv : mornV a b c 0 = .tuple #[.agg #[.int .i64 0, .int .i64 a, .int .i64 b], .int .i64 c] := by simp [mornV, hs0]
  go_wp2_with (first | (go_at_call 49; refine (sIn _ _ _ _).mono ?_; rintro e w' ⟨rfl, rfl⟩) | (go_at_call 83; refine (iIn _ _ _ _).mono ?_; rintro e w' ⟨rfl, rfl⟩))
  refine (sNextMorning a b c 0 _).mono ?_
  rintro _ w_2 ⟨rfl, hb_2⟩
  rw [hfv]
  clear hfv
  have i_2 : In w.heap.size w w_2 := In.step (by (repeat (first | exact In.refl _ | assumption | apply In.alloc | apply In.drewN | apply In.drew | (refine In.step ?_ (by assumption))))) hb_2
  have k_2_A : Blk w_2 b_A 41 #[.int .i64 a, .int .i64 b, .int .i64 c] := Blk.step (by (with_reducible (repeat (first | assumption | exact Blk.new' (by simp) | apply Blk.drewN | apply Blk.drew | apply Blk.alloc | (refine Blk.far ?_ (by (try simp) <;> omega) _))))) hb_2
  obtain ⟨c_2_A_0, c_2_A_1, c_2_A_2⟩ := cells3 k_2_A
  have l_2_A := k_2_A.lt
  have k_2_E : Blk w_2 b_E 78 #[.int .i64 4, .int .i64 n] := Blk.step (by (with_reducible (repeat (first | assumption | exact Blk.new' (by simp) | apply Blk.drewN | apply Blk.drew | apply Blk.alloc | (refine Blk.far ?_ (by (try simp) <;> omega) _))))) hb_2
  obtain ⟨c_2_E_0, c_2_E_1⟩ := cells2 k_2_E
  have l_2_E := k_2_E.lt
  have k_2_R : Blk w_2 b_R 41 #[.int .i64 0, .int .i64 0, .int .i64 0] := Blk.step (by (with_reducible (repeat (first | assumption | exact Blk.new' (by simp) | apply Blk.drewN | apply Blk.drew | apply Blk.alloc | (refine Blk.far ?_ (by (try simp) <;> omega) _))))) hb_2
  obtain ⟨c_2_R_0, c_2_R_1, c_2_R_2⟩ := cells3 k_2_R
  have l_2_R := k_2_R.lt
  have z_2_R_0 := k_2_R.frozen 0
  have z_2_R_1 := k_2_R.frozen 1
  have z_2_R_2 := k_2_R.frozen 2
  clear i_1 k_1_A c_1_A_0 c_1_A_1 c_1_A_2 l_1_A k_1_E c_1_E_0 c_1_E_1 l_1_E k_1_R c_1_R_0 c_1_R_1 c_1_R_2 l_1_R z_1_R_0 z_1_R_1 z_1_R_2 hb_1
  have hrk : rackB 0 a b = true := rack_of (by omega)
  by_cases hm : n = 0
  · subst hm
    have HV : Hid (evR a b c 4 0 = ⟨0, a, b, 0, 0, c, true⟩) := Lib.hid (by simp [evR, h1, h2])
    have kk : Blk ((((w_2.setCell ⟨b_R, 0, none⟩ (.int .i64 0)).setCell ⟨b_R, 1, none⟩ (.int .i64 a)).setCell ⟨b_R, 2, none⟩ (.int .i64 b)).alloc (.cells #[.int .i64 0, .int .i64 a, .int .i64 b] 41)) b_R 41 #[.int .i64 0, .int .i64 a, .int .i64 b] := by
      have h := (((k_2_R.set_ 0 (.int .i64 0)).set_ 1 (.int .i64 a)).set_ 2 (.int .i64 b)).alloc (.cells #[.int .i64 0, .int .i64 a, .int .i64 b] 41)
      simpa using h
    have i9 : In w.heap.size w ((((w_2.setCell ⟨b_R, 0, none⟩ (.int .i64 0)).setCell ⟨b_R, 1, none⟩ (.int .i64 a)).setCell ⟨b_R, 2, none⟩ (.int .i64 b)).alloc (.cells #[.int .i64 0, .int .i64 a, .int .i64 b] 41)) := ((In.set_ (In.set_ (In.set_ i_2 (p := ⟨b_R, 0, none⟩) hwb_R _) (p := ⟨b_R, 1, none⟩) hwb_R _) (p := ⟨b_R, 2, none⟩) hwb_R _)).alloc _
    have HK0 : Hid ((_ : World).cell? ⟨b_R, 0, none⟩ = some (.int .i64 0)) := Lib.hid (kk.cell 0)
    have HK1 : Hid ((_ : World).cell? ⟨b_R, 1, none⟩ = some (.int .i64 a)) := Lib.hid (kk.cell 1)
    have HK2 : Hid ((_ : World).cell? ⟨b_R, 2, none⟩ = some (.int .i64 b)) := Lib.hid (kk.cell 2)
    clear kk
    go_wp2_with (first | (go_at_call 49; refine (sIn _ _ _ _).mono ?_; rintro e w' ⟨rfl, rfl⟩) | (go_at_call 83; refine (iIn _ _ _ _).mono ?_; rintro e w' ⟨rfl, rfl⟩))
    have hk0 := HK0.out
    have hk1 := HK1.out
    have hk2 := HK2.out
    exact bodyPost_ret (v := .tuple #[.agg #[.int .i64 0, .int .i64 a, .int .i64 b], .int .i64 0, .int .i64 0, .int .i64 c, .bool true]) (by simp [results, Try.results100, go_sem, hk0, hk1, hk2]) rfl (Val.mk' (by rw [HV.out]; rfl) i9)
  · have HV : Hid (evR a b c 4 n = ⟨a, b, c, 0, 0, 0, false⟩) := Lib.hid (by simp [evR, h1, h2, hm])
    have hmb : (n == 0) = false := by simpa using hm
    have kk : Blk ((((w_2.setCell ⟨b_R, 0, none⟩ (.int .i64 a)).setCell ⟨b_R, 1, none⟩ (.int .i64 b)).setCell ⟨b_R, 2, none⟩ (.int .i64 c)).alloc (.cells #[.int .i64 0, .int .i64 a, .int .i64 b] 41)) b_R 41 #[.int .i64 a, .int .i64 b, .int .i64 c] := by
      have h := (((k_2_R.set_ 0 (.int .i64 a)).set_ 1 (.int .i64 b)).set_ 2 (.int .i64 c)).alloc (.cells #[.int .i64 0, .int .i64 a, .int .i64 b] 41)
      simpa using h
    have i9 : In w.heap.size w ((((w_2.setCell ⟨b_R, 0, none⟩ (.int .i64 a)).setCell ⟨b_R, 1, none⟩ (.int .i64 b)).setCell ⟨b_R, 2, none⟩ (.int .i64 c)).alloc (.cells #[.int .i64 0, .int .i64 a, .int .i64 b] 41)) := ((In.set_ (In.set_ (In.set_ i_2 (p := ⟨b_R, 0, none⟩) hwb_R _) (p := ⟨b_R, 1, none⟩) hwb_R _) (p := ⟨b_R, 2, none⟩) hwb_R _)).alloc _
    have HK0 : Hid ((_ : World).cell? ⟨b_R, 0, none⟩ = some (.int .i64 a)) := Lib.hid (kk.cell 0)
    have HK1 : Hid ((_ : World).cell? ⟨b_R, 1, none⟩ = some (.int .i64 b)) := Lib.hid (kk.cell 1)
    have HK2 : Hid ((_ : World).cell? ⟨b_R, 2, none⟩ = some (.int .i64 c)) := Lib.hid (kk.cell 2)
    clear kk
    go_wp2_with (first | (go_at_call 49; refine (sIn _ _ _ _).mono ?_; rintro e w' ⟨rfl, rfl⟩) | (go_at_call 83; refine (iIn _ _ _ _).mono ?_; rintro e w' ⟨rfl, rfl⟩))
    have hk0 := HK0.out
    have hk1 := HK1.out
    have hk2 := HK2.out
    exact bodyPost_ret (v := .tuple #[.agg #[.int .i64 a, .int .i64 b, .int .i64 c], .int .i64 0, .int .i64 0, .int .i64 0, .bool false]) (by simp [results, Try.results100, go_sem, hk0, hk1, hk2]) rfl (Val.mk' (by rw [HV.out]; rfl) i9)
set_option maxHeartbeats 4000000 in
theorem sEv0 (a b c k n : Int) (w : World) (h1 : rackB a b c = true) (h2 : inB n 0 1000 = true) (k1 : ¬ k = 1) (k2 : ¬ k = 2) (k3 : ¬ k = 3) (k4 : ¬ k = 4) : Calls Try.prog 100 #[.agg #[.int .i64 a, .int .i64 b, .int .i64 c], .agg #[.int .i64 k, .int .i64 n]] w (Val (evT (evR a b c k n)) w) := by
  obtain ⟨b_A, hbx_A⟩ : ∃ b, b = w.heap.size := ⟨_, rfl⟩
  have kk_A : Blk (((w.alloc (.cells #[.int .i64 a, .int .i64 b, .int .i64 c] 41)).alloc (.cells #[.int .i64 k, .int .i64 n] 78)).alloc (.cells #[.int .i64 0, .int .i64 0, .int .i64 0] 41)) b_A 41 #[.int .i64 a, .int .i64 b, .int .i64 c] := (((Blk.new' (w := w) (t := 41) (cs := #[.int .i64 a, .int .i64 b, .int .i64 c]) (g := b_A) (by simp [hbx_A])).alloc (.cells #[.int .i64 k, .int .i64 n] 78)).alloc (.cells #[.int .i64 0, .int .i64 0, .int .i64 0] 41))
  have hwb_A : w.heap.size ≤ b_A := by omega
  obtain ⟨b_E, hbx_E⟩ : ∃ b, b = w.heap.size + 1 := ⟨_, rfl⟩
  have kk_E : Blk (((w.alloc (.cells #[.int .i64 a, .int .i64 b, .int .i64 c] 41)).alloc (.cells #[.int .i64 k, .int .i64 n] 78)).alloc (.cells #[.int .i64 0, .int .i64 0, .int .i64 0] 41)) b_E 78 #[.int .i64 k, .int .i64 n] := ((Blk.new' (w := (w.alloc (.cells #[.int .i64 a, .int .i64 b, .int .i64 c] 41))) (t := 78) (cs := #[.int .i64 k, .int .i64 n]) (g := b_E) (by simp [hbx_E])).alloc (.cells #[.int .i64 0, .int .i64 0, .int .i64 0] 41))
  have hwb_E : w.heap.size ≤ b_E := by omega
  obtain ⟨b_R, hbx_R⟩ : ∃ b, b = w.heap.size + 1 + 1 := ⟨_, rfl⟩
  have kk_R : Blk (((w.alloc (.cells #[.int .i64 a, .int .i64 b, .int .i64 c] 41)).alloc (.cells #[.int .i64 k, .int .i64 n] 78)).alloc (.cells #[.int .i64 0, .int .i64 0, .int .i64 0] 41)) b_R 41 #[.int .i64 0, .int .i64 0, .int .i64 0] := (Blk.new' (w := ((w.alloc (.cells #[.int .i64 a, .int .i64 b, .int .i64 c] 41)).alloc (.cells #[.int .i64 k, .int .i64 n] 78))) (t := 41) (cs := #[.int .i64 0, .int .i64 0, .int .i64 0]) (g := b_R) (by simp [hbx_R]))
  have hwb_R : w.heap.size ≤ b_R := by omega
  have NB_A_E : Hid (b_A ≠ b_E) := Lib.hid (by omega)
  have NB_A_R : Hid (b_A ≠ b_R) := Lib.hid (by omega)
  have NB_E_R : Hid (b_E ≠ b_R) := Lib.hid (by omega)
  have hb_0 : Below w.heap.size w (((w.alloc (.cells #[.int .i64 a, .int .i64 b, .int .i64 c] 41)).alloc (.cells #[.int .i64 k, .int .i64 n] 78)).alloc (.cells #[.int .i64 0, .int .i64 0, .int .i64 0] 41)) := by
    have h : In w.heap.size w (((w.alloc (.cells #[.int .i64 a, .int .i64 b, .int .i64 c] 41)).alloc (.cells #[.int .i64 k, .int .i64 n] 78)).alloc (.cells #[.int .i64 0, .int .i64 0, .int .i64 0] 41)) := by (repeat (first | exact In.refl _ | assumption | apply In.alloc | apply In.drewN | apply In.drew | (refine In.step ?_ (by assumption))))
    exact h.below
  go_enter Try.func100, Try.ntmps100
  go_wp2_with fail
  rw [← hbx_R]
  clear hbx_R
  rw [← hbx_E]
  clear hbx_E
  rw [← hbx_A]
  clear hbx_A
  generalize (((w.alloc (.cells #[.int .i64 a, .int .i64 b, .int .i64 c] 41)).alloc (.cells #[.int .i64 k, .int .i64 n] 78)).alloc (.cells #[.int .i64 0, .int .i64 0, .int .i64 0] 41)) = w_0 at *
  have i_0 : In w.heap.size w w_0 := In.step (by (repeat (first | exact In.refl _ | assumption | apply In.alloc | apply In.drewN | apply In.drew | (refine In.step ?_ (by assumption))))) hb_0
  have k_0_A : Blk w_0 b_A 41 #[.int .i64 a, .int .i64 b, .int .i64 c] := kk_A
  obtain ⟨c_0_A_0, c_0_A_1, c_0_A_2⟩ := cells3 k_0_A
  have l_0_A := k_0_A.lt
  have k_0_E : Blk w_0 b_E 78 #[.int .i64 k, .int .i64 n] := kk_E
  obtain ⟨c_0_E_0, c_0_E_1⟩ := cells2 k_0_E
  have l_0_E := k_0_E.lt
  have k_0_R : Blk w_0 b_R 41 #[.int .i64 0, .int .i64 0, .int .i64 0] := kk_R
  obtain ⟨c_0_R_0, c_0_R_1, c_0_R_2⟩ := cells3 k_0_R
  have l_0_R := k_0_R.lt
  have z_0_R_0 := k_0_R.frozen 0
  have z_0_R_1 := k_0_R.frozen 1
  have z_0_R_2 := k_0_R.frozen 2
  clear kk_A kk_E kk_R
  go_wp2_with fail
  refine (sRackOk a b c _).mono ?_
  rintro _ w_1 ⟨rfl, hb_1⟩
  rw [h1]
  have i_1 : In w.heap.size w w_1 := In.step (by (repeat (first | exact In.refl _ | assumption | apply In.alloc | apply In.drewN | apply In.drew | (refine In.step ?_ (by assumption))))) hb_1
  have k_1_A : Blk w_1 b_A 41 #[.int .i64 a, .int .i64 b, .int .i64 c] := Blk.step (by (with_reducible (repeat (first | assumption | exact Blk.new' (by simp) | apply Blk.drewN | apply Blk.drew | apply Blk.alloc | (refine Blk.far ?_ (by (try simp) <;> omega) _))))) hb_1
  obtain ⟨c_1_A_0, c_1_A_1, c_1_A_2⟩ := cells3 k_1_A
  have l_1_A := k_1_A.lt
  have k_1_E : Blk w_1 b_E 78 #[.int .i64 k, .int .i64 n] := Blk.step (by (with_reducible (repeat (first | assumption | exact Blk.new' (by simp) | apply Blk.drewN | apply Blk.drew | apply Blk.alloc | (refine Blk.far ?_ (by (try simp) <;> omega) _))))) hb_1
  obtain ⟨c_1_E_0, c_1_E_1⟩ := cells2 k_1_E
  have l_1_E := k_1_E.lt
  have k_1_R : Blk w_1 b_R 41 #[.int .i64 0, .int .i64 0, .int .i64 0] := Blk.step (by (with_reducible (repeat (first | assumption | exact Blk.new' (by simp) | apply Blk.drewN | apply Blk.drew | apply Blk.alloc | (refine Blk.far ?_ (by (try simp) <;> omega) _))))) hb_1
  obtain ⟨c_1_R_0, c_1_R_1, c_1_R_2⟩ := cells3 k_1_R
  have l_1_R := k_1_R.lt
  have z_1_R_0 := k_1_R.frozen 0
  have z_1_R_1 := k_1_R.frozen 1
  have z_1_R_2 := k_1_R.frozen 2
  clear i_0 k_0_A c_0_A_0 c_0_A_1 c_0_A_2 l_0_A k_0_E c_0_E_0 c_0_E_1 l_0_E k_0_R c_0_R_0 c_0_R_1 c_0_R_2 l_0_R z_0_R_0 z_0_R_1 z_0_R_2 hb_0
  obtain ⟨r1, r2, r3, r4, r5, r6⟩ := rack_in h1
  obtain ⟨n1, n2⟩ := inB_tt h2
  have hsb : sellB a b c n = true := by simp [sellB, h1, inB]; omega
  have k1b : (k == 1) = false := by simpa using k1
  have k2b : (k == 2) = false := by simpa using k2
  have k3b : (k == 3) = false := by simpa using k3
  have k4b : (k == 4) = false := by simpa using k4
  have HV : Hid (evR a b c k n = ⟨a, b, c, 0, 0, 0, false⟩) := Lib.hid (by simp [evR, k1, k2, k3, k4])
  have kk : Blk (((w_1.setCell ⟨b_R, 0, none⟩ (.int .i64 a)).setCell ⟨b_R, 1, none⟩ (.int .i64 b)).setCell ⟨b_R, 2, none⟩ (.int .i64 c)) b_R 41 #[.int .i64 a, .int .i64 b, .int .i64 c] := by
    have h := (((k_1_R.set_ 0 (.int .i64 a)).set_ 1 (.int .i64 b)).set_ 2 (.int .i64 c))
    simpa using h
  have i9 : In w.heap.size w (((w_1.setCell ⟨b_R, 0, none⟩ (.int .i64 a)).setCell ⟨b_R, 1, none⟩ (.int .i64 b)).setCell ⟨b_R, 2, none⟩ (.int .i64 c)) := (In.set_ (In.set_ (In.set_ i_1 (p := ⟨b_R, 0, none⟩) hwb_R _) (p := ⟨b_R, 1, none⟩) hwb_R _) (p := ⟨b_R, 2, none⟩) hwb_R _)
  have HK0 : Hid ((_ : World).cell? ⟨b_R, 0, none⟩ = some (.int .i64 a)) := Lib.hid (kk.cell 0)
  have HK1 : Hid ((_ : World).cell? ⟨b_R, 1, none⟩ = some (.int .i64 b)) := Lib.hid (kk.cell 1)
  have HK2 : Hid ((_ : World).cell? ⟨b_R, 2, none⟩ = some (.int .i64 c)) := Lib.hid (kk.cell 2)
  clear kk
  go_wp2_with (first | (go_at_call 49; refine (sIn _ _ _ _).mono ?_; rintro e w' ⟨rfl, rfl⟩) | (go_at_call 83; refine (iIn _ _ _ _).mono ?_; rintro e w' ⟨rfl, rfl⟩))
  have hk0 := HK0.out
  have hk1 := HK1.out
  have hk2 := HK2.out
  exact bodyPost_ret (v := .tuple #[.agg #[.int .i64 a, .int .i64 b, .int .i64 c], .int .i64 0, .int .i64 0, .int .i64 0, .bool false]) (by simp [results, Try.results100, go_sem, hk0, hk1, hk2]) rfl (Val.mk' (by rw [HV.out]; rfl) i9)
theorem sEventOn (a b c k n : Int) (w : World) : Calls Try.prog 100 #[.agg #[.int .i64 a, .int .i64 b, .int .i64 c], .agg #[.int .i64 k, .int .i64 n]] w (Val (evT (evR a b c k n)) w) := by
  by_cases hh : rackB a b c = true ∧ inB n 0 1000 = true
  · obtain ⟨h1, h2⟩ := hh
    by_cases k1 : k = 1
    · subst k1; exact sEv1 a b c n w h1 h2
    by_cases k2 : k = 2
    · subst k2; exact sEv2 a b c n w h1 h2
    by_cases k3 : k = 3
    · subst k3; exact sEv3 a b c n w h1 h2
    by_cases k4 : k = 4
    · subst k4; exact sEv4 a b c n w h1 h2
    exact sEv0 a b c k n w h1 h2 k1 k2 k3 k4
  have HV : Hid (evR a b c k n = ⟨a, b, c, 0, 0, 0, false⟩) := Lib.hid (by
    unfold evR
    rw [if_neg (by simpa using hh)])
  obtain ⟨b_A, hbx_A⟩ : ∃ b, b = w.heap.size := ⟨_, rfl⟩
  have kk_A : Blk (((w.alloc (.cells #[.int .i64 a, .int .i64 b, .int .i64 c] 41)).alloc (.cells #[.int .i64 k, .int .i64 n] 78)).alloc (.cells #[.int .i64 0, .int .i64 0, .int .i64 0] 41)) b_A 41 #[.int .i64 a, .int .i64 b, .int .i64 c] := (((Blk.new' (w := w) (t := 41) (cs := #[.int .i64 a, .int .i64 b, .int .i64 c]) (g := b_A) (by simp [hbx_A])).alloc (.cells #[.int .i64 k, .int .i64 n] 78)).alloc (.cells #[.int .i64 0, .int .i64 0, .int .i64 0] 41))
  have hwb_A : w.heap.size ≤ b_A := by omega
  obtain ⟨b_E, hbx_E⟩ : ∃ b, b = w.heap.size + 1 := ⟨_, rfl⟩
  have kk_E : Blk (((w.alloc (.cells #[.int .i64 a, .int .i64 b, .int .i64 c] 41)).alloc (.cells #[.int .i64 k, .int .i64 n] 78)).alloc (.cells #[.int .i64 0, .int .i64 0, .int .i64 0] 41)) b_E 78 #[.int .i64 k, .int .i64 n] := ((Blk.new' (w := (w.alloc (.cells #[.int .i64 a, .int .i64 b, .int .i64 c] 41))) (t := 78) (cs := #[.int .i64 k, .int .i64 n]) (g := b_E) (by simp [hbx_E])).alloc (.cells #[.int .i64 0, .int .i64 0, .int .i64 0] 41))
  have hwb_E : w.heap.size ≤ b_E := by omega
  obtain ⟨b_R, hbx_R⟩ : ∃ b, b = w.heap.size + 1 + 1 := ⟨_, rfl⟩
  have kk_R : Blk (((w.alloc (.cells #[.int .i64 a, .int .i64 b, .int .i64 c] 41)).alloc (.cells #[.int .i64 k, .int .i64 n] 78)).alloc (.cells #[.int .i64 0, .int .i64 0, .int .i64 0] 41)) b_R 41 #[.int .i64 0, .int .i64 0, .int .i64 0] := (Blk.new' (w := ((w.alloc (.cells #[.int .i64 a, .int .i64 b, .int .i64 c] 41)).alloc (.cells #[.int .i64 k, .int .i64 n] 78))) (t := 41) (cs := #[.int .i64 0, .int .i64 0, .int .i64 0]) (g := b_R) (by simp [hbx_R]))
  have hwb_R : w.heap.size ≤ b_R := by omega
  have NB_A_E : Hid (b_A ≠ b_E) := Lib.hid (by omega)
  have NB_A_R : Hid (b_A ≠ b_R) := Lib.hid (by omega)
  have NB_E_R : Hid (b_E ≠ b_R) := Lib.hid (by omega)
  have hb_0 : Below w.heap.size w (((w.alloc (.cells #[.int .i64 a, .int .i64 b, .int .i64 c] 41)).alloc (.cells #[.int .i64 k, .int .i64 n] 78)).alloc (.cells #[.int .i64 0, .int .i64 0, .int .i64 0] 41)) := by
    have h : In w.heap.size w (((w.alloc (.cells #[.int .i64 a, .int .i64 b, .int .i64 c] 41)).alloc (.cells #[.int .i64 k, .int .i64 n] 78)).alloc (.cells #[.int .i64 0, .int .i64 0, .int .i64 0] 41)) := by (repeat (first | exact In.refl _ | assumption | apply In.alloc | apply In.drewN | apply In.drew | (refine In.step ?_ (by assumption))))
    exact h.below
  go_enter Try.func100, Try.ntmps100
  go_wp2_with fail
  rw [← hbx_R]
  clear hbx_R
  rw [← hbx_E]
  clear hbx_E
  rw [← hbx_A]
  clear hbx_A
  generalize (((w.alloc (.cells #[.int .i64 a, .int .i64 b, .int .i64 c] 41)).alloc (.cells #[.int .i64 k, .int .i64 n] 78)).alloc (.cells #[.int .i64 0, .int .i64 0, .int .i64 0] 41)) = w_0 at *
  have i_0 : In w.heap.size w w_0 := In.step (by (repeat (first | exact In.refl _ | assumption | apply In.alloc | apply In.drewN | apply In.drew | (refine In.step ?_ (by assumption))))) hb_0
  have k_0_A : Blk w_0 b_A 41 #[.int .i64 a, .int .i64 b, .int .i64 c] := kk_A
  obtain ⟨c_0_A_0, c_0_A_1, c_0_A_2⟩ := cells3 k_0_A
  have l_0_A := k_0_A.lt
  have k_0_E : Blk w_0 b_E 78 #[.int .i64 k, .int .i64 n] := kk_E
  obtain ⟨c_0_E_0, c_0_E_1⟩ := cells2 k_0_E
  have l_0_E := k_0_E.lt
  have k_0_R : Blk w_0 b_R 41 #[.int .i64 0, .int .i64 0, .int .i64 0] := kk_R
  obtain ⟨c_0_R_0, c_0_R_1, c_0_R_2⟩ := cells3 k_0_R
  have l_0_R := k_0_R.lt
  have z_0_R_0 := k_0_R.frozen 0
  have z_0_R_1 := k_0_R.frozen 1
  have z_0_R_2 := k_0_R.frozen 2
  clear kk_A kk_E kk_R
  go_wp2_with fail
  refine (sRackOk a b c _).mono ?_
  rintro _ w_1 ⟨rfl, hb_1⟩
  have i_1 : In w.heap.size w w_1 := In.step (by (repeat (first | exact In.refl _ | assumption | apply In.alloc | apply In.drewN | apply In.drew | (refine In.step ?_ (by assumption))))) hb_1
  have k_1_A : Blk w_1 b_A 41 #[.int .i64 a, .int .i64 b, .int .i64 c] := Blk.step (by (with_reducible (repeat (first | assumption | exact Blk.new' (by simp) | apply Blk.drewN | apply Blk.drew | apply Blk.alloc | (refine Blk.far ?_ (by (try simp) <;> omega) _))))) hb_1
  obtain ⟨c_1_A_0, c_1_A_1, c_1_A_2⟩ := cells3 k_1_A
  have l_1_A := k_1_A.lt
  have k_1_E : Blk w_1 b_E 78 #[.int .i64 k, .int .i64 n] := Blk.step (by (with_reducible (repeat (first | assumption | exact Blk.new' (by simp) | apply Blk.drewN | apply Blk.drew | apply Blk.alloc | (refine Blk.far ?_ (by (try simp) <;> omega) _))))) hb_1
  obtain ⟨c_1_E_0, c_1_E_1⟩ := cells2 k_1_E
  have l_1_E := k_1_E.lt
  have k_1_R : Blk w_1 b_R 41 #[.int .i64 0, .int .i64 0, .int .i64 0] := Blk.step (by (with_reducible (repeat (first | assumption | exact Blk.new' (by simp) | apply Blk.drewN | apply Blk.drew | apply Blk.alloc | (refine Blk.far ?_ (by (try simp) <;> omega) _))))) hb_1
  obtain ⟨c_1_R_0, c_1_R_1, c_1_R_2⟩ := cells3 k_1_R
  have l_1_R := k_1_R.lt
  have z_1_R_0 := k_1_R.frozen 0
  have z_1_R_1 := k_1_R.frozen 1
  have z_1_R_2 := k_1_R.frozen 2
  clear i_0 k_0_A c_0_A_0 c_0_A_1 c_0_A_2 l_0_A k_0_E c_0_E_0 c_0_E_1 l_0_E k_0_R c_0_R_0 c_0_R_1 c_0_R_2 l_0_R z_0_R_0 z_0_R_1 z_0_R_2 hb_0
  cases h1 : rackB a b c
  · have kk : Blk (((w_1.setCell ⟨b_R, 0, none⟩ (.int .i64 a)).setCell ⟨b_R, 1, none⟩ (.int .i64 b)).setCell ⟨b_R, 2, none⟩ (.int .i64 c)) b_R 41 #[.int .i64 a, .int .i64 b, .int .i64 c] := by
      have h := (((k_1_R.set_ 0 (.int .i64 a)).set_ 1 (.int .i64 b)).set_ 2 (.int .i64 c))
      simpa using h
    have i9 : In w.heap.size w (((w_1.setCell ⟨b_R, 0, none⟩ (.int .i64 a)).setCell ⟨b_R, 1, none⟩ (.int .i64 b)).setCell ⟨b_R, 2, none⟩ (.int .i64 c)) := (In.set_ (In.set_ (In.set_ i_1 (p := ⟨b_R, 0, none⟩) hwb_R _) (p := ⟨b_R, 1, none⟩) hwb_R _) (p := ⟨b_R, 2, none⟩) hwb_R _)
    have HK0 : Hid ((_ : World).cell? ⟨b_R, 0, none⟩ = some (.int .i64 a)) := Lib.hid (kk.cell 0)
    have HK1 : Hid ((_ : World).cell? ⟨b_R, 1, none⟩ = some (.int .i64 b)) := Lib.hid (kk.cell 1)
    have HK2 : Hid ((_ : World).cell? ⟨b_R, 2, none⟩ = some (.int .i64 c)) := Lib.hid (kk.cell 2)
    clear kk
    go_wp2_with (first | (go_at_call 49; refine (sIn _ _ _ _).mono ?_; rintro e w' ⟨rfl, rfl⟩) | (go_at_call 83; refine (iIn _ _ _ _).mono ?_; rintro e w' ⟨rfl, rfl⟩))
    have hk0 := HK0.out
    have hk1 := HK1.out
    have hk2 := HK2.out
    exact bodyPost_ret (v := .tuple #[.agg #[.int .i64 a, .int .i64 b, .int .i64 c], .int .i64 0, .int .i64 0, .int .i64 0, .bool false]) (by simp [results, Try.results100, go_sem, hk0, hk1, hk2]) rfl (Val.mk' (by rw [HV.out]; rfl) i9)
  have h2 : inB n 0 1000 = false := by
    cases h2 : inB n 0 1000
    · rfl
    · exact absurd ⟨h1, h2⟩ hh
  have kk : Blk (((w_1.setCell ⟨b_R, 0, none⟩ (.int .i64 a)).setCell ⟨b_R, 1, none⟩ (.int .i64 b)).setCell ⟨b_R, 2, none⟩ (.int .i64 c)) b_R 41 #[.int .i64 a, .int .i64 b, .int .i64 c] := by
    have h := (((k_1_R.set_ 0 (.int .i64 a)).set_ 1 (.int .i64 b)).set_ 2 (.int .i64 c))
    simpa using h
  have i9 : In w.heap.size w (((w_1.setCell ⟨b_R, 0, none⟩ (.int .i64 a)).setCell ⟨b_R, 1, none⟩ (.int .i64 b)).setCell ⟨b_R, 2, none⟩ (.int .i64 c)) := (In.set_ (In.set_ (In.set_ i_1 (p := ⟨b_R, 0, none⟩) hwb_R _) (p := ⟨b_R, 1, none⟩) hwb_R _) (p := ⟨b_R, 2, none⟩) hwb_R _)
  have HK0 : Hid ((_ : World).cell? ⟨b_R, 0, none⟩ = some (.int .i64 a)) := Lib.hid (kk.cell 0)
  have HK1 : Hid ((_ : World).cell? ⟨b_R, 1, none⟩ = some (.int .i64 b)) := Lib.hid (kk.cell 1)
  have HK2 : Hid ((_ : World).cell? ⟨b_R, 2, none⟩ = some (.int .i64 c)) := Lib.hid (kk.cell 2)
  clear kk
  go_wp2_with (first | (go_at_call 49; refine (sIn _ _ _ _).mono ?_; rintro e w' ⟨rfl, rfl⟩) | (go_at_call 83; refine (iIn _ _ _ _).mono ?_; rintro e w' ⟨rfl, rfl⟩))
  have hk0 := HK0.out
  have hk1 := HK1.out
  have hk2 := HK2.out
  exact bodyPost_ret (v := .tuple #[.agg #[.int .i64 a, .int .i64 b, .int .i64 c], .int .i64 0, .int .i64 0, .int .i64 0, .bool false]) (by simp [results, Try.results100, go_sem, hk0, hk1, hk2]) rfl (Val.mk' (by rw [HV.out]; rfl) i9)
end Go.Proofs.Ytmcfghklfkmfkaa
