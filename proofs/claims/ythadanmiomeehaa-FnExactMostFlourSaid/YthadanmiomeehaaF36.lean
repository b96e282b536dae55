/- Chapter 36: FirstMissing, TakeFor of the model. -/
import Derived.Test.YthadanmiomeehaaE36
import Derived.IntWalk
namespace Go.Proofs.Ythadanmiomeehaa
open Go.ChangeShapes Go.WideShapes Go.ChangeAt Go.RowKit
set_option linter.unusedVariables false
set_option linter.unusedSimpArgs false
set_option maxHeartbeats 2000000

theorem can_no {n : Nat} {xs : List Int} {a b c f : Int} (h : ¬ (dOk a b c = true ∧ 0 ≤ f ∧ f ≤ 1000000)) : canB n xs a b c f = false := by
  cases hc : canB n xs a b c f
  · rfl
  · exact absurd (can_at hc).2.2 h
theorem can_st {n : Nat} {xs : List Int} {a b c f : Int} (h : stB n xs = false) : canB n xs a b c f = false := by simp [canB, h]
theorem can_yes {n : Nat} {xs : List Int} {a b c f : Int} (h : stB n xs = true) (h2 : dOk a b c = true ∧ 0 ≤ f ∧ f ≤ 1000000) : canB n xs a b c f = true := by simp [canB, h, h2.1, inB_t h2.2]
theorem sFirstMissing (ad : Addr) (n cap : Nat) (xs : List Int) (a b c f : Int) (w : World) (hn : n ≤ 10000000) (hx : ReadsI w (some ad) n xs) : Calls Try.prog 21 #[.agg #[.slice (some ad) n cap], .agg #[.int .i64 a, .int .i64 b, .int .i64 c], .int .i64 f] w (Val (.int .i64 (fmV n xs a b c f)) w) := by
  have HX := Lib.hid hx
  have hlen := hx.1
  clear hx
  obtain ⟨b_A, hbx_A⟩ : ∃ b, b = w.heap.size := ⟨_, rfl⟩
  have kk_A : Blk ((w.alloc (.cells #[.slice (some ad) n cap] 27)).alloc (.cells #[.int .i64 a, .int .i64 b, .int .i64 c] 35)) b_A 27 #[.slice (some ad) n cap] := ((Blk.new' (w := w) (t := 27) (cs := #[.slice (some ad) n cap]) (g := b_A) (by simp [hbx_A])).alloc (.cells #[.int .i64 a, .int .i64 b, .int .i64 c] 35))
  have hwb_A : w.heap.size ≤ b_A := by omega
  obtain ⟨b_D, hbx_D⟩ : ∃ b, b = w.heap.size + 1 := ⟨_, rfl⟩
  have kk_D : Blk ((w.alloc (.cells #[.slice (some ad) n cap] 27)).alloc (.cells #[.int .i64 a, .int .i64 b, .int .i64 c] 35)) b_D 35 #[.int .i64 a, .int .i64 b, .int .i64 c] := (Blk.new' (w := (w.alloc (.cells #[.slice (some ad) n cap] 27))) (t := 35) (cs := #[.int .i64 a, .int .i64 b, .int .i64 c]) (g := b_D) (by simp [hbx_D]))
  have hwb_D : w.heap.size ≤ b_D := by omega
  have NB_A_D : Hid (b_A ≠ b_D) := Lib.hid (by omega)
  have hb_0 : Below w.heap.size w ((w.alloc (.cells #[.slice (some ad) n cap] 27)).alloc (.cells #[.int .i64 a, .int .i64 b, .int .i64 c] 35)) := by
    have h : In w.heap.size w ((w.alloc (.cells #[.slice (some ad) n cap] 27)).alloc (.cells #[.int .i64 a, .int .i64 b, .int .i64 c] 35)) := by (repeat (first | exact In.refl _ | assumption | apply In.alloc | apply In.drewN | apply In.drew | (refine In.step ?_ (by assumption))))
    exact h.below
  go_enter Try.func21, Try.ntmps21
  go_wp2_with fail
  rw [← hbx_D]
  clear hbx_D
  rw [← hbx_A]
  clear hbx_A
  generalize ((w.alloc (.cells #[.slice (some ad) n cap] 27)).alloc (.cells #[.int .i64 a, .int .i64 b, .int .i64 c] 35)) = w_0 at *
  have i_0 : In w.heap.size w w_0 := In.step (by (repeat (first | exact In.refl _ | assumption | apply In.alloc | apply In.drewN | apply In.drew | (refine In.step ?_ (by assumption))))) hb_0
  have k_0_A : Blk w_0 b_A 27 #[.slice (some ad) n cap] := kk_A
  have c_0_A_0 : w_0.cell? ⟨b_A, 0, none⟩ = some (.slice (some ad) n cap) := k_0_A.cell 0
  have l_0_A := k_0_A.lt
  have k_0_D : Blk w_0 b_D 35 #[.int .i64 a, .int .i64 b, .int .i64 c] := kk_D
  have c_0_D_0 : w_0.cell? ⟨b_D, 0, none⟩ = some (.int .i64 a) := k_0_D.cell 0
  have c_0_D_1 : w_0.cell? ⟨b_D, 1, none⟩ = some (.int .i64 b) := k_0_D.cell 1
  have c_0_D_2 : w_0.cell? ⟨b_D, 2, none⟩ = some (.int .i64 c) := k_0_D.cell 2
  have l_0_D := k_0_D.lt
  clear kk_A kk_D
  by_cases h2 : dOk a b c = true ∧ 0 ≤ f ∧ f ≤ 1000000
  · have HAM := Lib.hid (fun i => amV_in (i := i) h2.1 h2.2.1 h2.2.2)
    go_wp2_with fail
    refine (sAm a b c f h2.1 h2.2.1 h2.2.2 _).mono ?_
    rintro _ w_1 ⟨g_1, rfl, ho_1, hg_1, hb_1⟩
    have GX_M : Hid (w.heap.size ≤ g_1) := Lib.hid (by have h1 := hg_1; (try simp at h1); have h2 := In.size i_0; omega)
    have o_1_M : OwnC w_1 g_1 (4) 4 (amV a b c f) := ho_1
    clear ho_1 hg_1
    have i_1 : In w.heap.size w w_1 := In.step (by (repeat (first | exact In.refl _ | assumption | apply In.alloc | apply In.drewN | apply In.drew | (refine In.step ?_ (by assumption))))) hb_1
    have k_1_A : Blk w_1 b_A 27 #[.slice (some ad) n cap] := Blk.step (by (with_reducible (repeat (first | assumption | exact Blk.new' (by simp) | apply Blk.drewN | apply Blk.drew | apply Blk.alloc | (refine Blk.far ?_ (by (try simp) <;> omega) _))))) hb_1
    have c_1_A_0 : w_1.cell? ⟨b_A, 0, none⟩ = some (.slice (some ad) n cap) := k_1_A.cell 0
    have l_1_A := k_1_A.lt
    have k_1_D : Blk w_1 b_D 35 #[.int .i64 a, .int .i64 b, .int .i64 c] := Blk.step (by (with_reducible (repeat (first | assumption | exact Blk.new' (by simp) | apply Blk.drewN | apply Blk.drew | apply Blk.alloc | (refine Blk.far ?_ (by (try simp) <;> omega) _))))) hb_1
    have c_1_D_0 : w_1.cell? ⟨b_D, 0, none⟩ = some (.int .i64 a) := k_1_D.cell 0
    have c_1_D_1 : w_1.cell? ⟨b_D, 1, none⟩ = some (.int .i64 b) := k_1_D.cell 1
    have c_1_D_2 : w_1.cell? ⟨b_D, 2, none⟩ = some (.int .i64 c) := k_1_D.cell 2
    have l_1_D := k_1_D.lt
    clear i_0 k_0_A c_0_A_0 l_0_A k_0_D c_0_D_0 c_0_D_1 c_0_D_2 l_0_D hb_0
    go_wp2
    go_loopw [8] (fun v wr => ∃ k : Nat, k ≤ 4 ∧ v = .int .i64 k ∧ (∀ i, i < k → lessP xs (amV a b c f) i = false) ∧ (k = 0 ∨ stB n xs = true) ∧ In w_1.heap.size w_1 wr) (fun v _ => 4 - (intOf v).toNat)
    case atStart => exact ⟨0, Nat.zero_le _, rfl, fun i hi => absurd hi (Nat.not_lt_zero _), .inl rfl, In.refl _⟩
    case round =>
      obtain ⟨k, hk, rfl, ho, hst, hi⟩ := hrel
      have HO := Lib.hid ho
      clear ho
      have kA := k_1_A.step hi.below
      have cA := kA.cell 0
      have oM := o_1_M.step hi.below
      have hr := HX.out.below (i_1.trans hi).below (Nat.le_refl _)
      have lA := kA.lt
      have i2 : In w.heap.size w wr := i_1.trans hi
      by_cases hlt : k < 4
      · go_wp2_with fail
        refine (sStoreOk (some ad) n cap xs _ (by unfold maxLen; omega) (hr.below (by exact Below.refl _ _) (Nat.le_refl _))).mono ?_
        rintro _ w2 ⟨rfl, hb2⟩
        cases hs : stB n xs
        · have HV : Hid (fmV n xs a b c f = -1) := Lib.hid (by simp [fmV, can_st hs])
          clear hst
          go_wp2
          go_ret
          exact Val.mk' (v_int HV.out.symm) (by (repeat (first | exact In.refl _ | assumption | apply In.alloc | apply In.drewN | apply In.drew | (refine In.step ?_ (by assumption)))))
        · have hcan := can_yes (a := a) (b := b) (c := c) (f := f) hs h2
          obtain ⟨rfl, _, _⟩ := can_at hcan
          have HF := Lib.hid (fun (h : lessP xs (amV a b c f) k = true) => show fmV 4 xs a b c f = k by simp only [fmV, hcan, if_true]; exact fstP_at hlt HO.out h)
          have HL : Hid (lessP xs (amV a b c f) k = decide (xs.getD k 0 < (amV a b c f).getD k 0)) := Lib.hid rfl
          have k2 := kA.step hb2
          have c2 := k2.cell 0
          have oM2 := (oM.step hb2).cellI hlt
          obtain ⟨a', ha', hc⟩ := (hr.below hb2 (Nat.le_refl _)).2 k hlt
          injection ha' with ha'
          subst ha'
          have i3 : In w.heap.size w w2 := i2.step hb2
          have i4 : In w_1.heap.size w_1 w2 := hi.step hb2
          generalize (amV a b c f).getD k 0 = y at *
          generalize xs.getD k 0 = x at *
          clear hst hcan
          by_cases hxy : x < y
          · have hd : decide (x < y) = true := by simpa using hxy
            have HF2 := Lib.hid (HF.out (by rw [HL.out]; exact hd))
            clear HF
            go_wp2
            go_quiet (fail)
            go_wp2
            go_ret
            exact Val.mk' (v_int HF2.out.symm) (by (repeat (first | exact In.refl _ | assumption | apply In.alloc | apply In.drewN | apply In.drew | (refine In.step ?_ (by assumption)))))
          · have hd : decide (x < y) = false := by simpa using hxy
            have HF2 : Hid (lessP xs (amV a b c f) k = false) := Lib.hid (by rw [HL.out]; exact hd)
            have HSS := Lib.hid hs
            clear HF hs
            go_wp2
            go_quiet (fail)
            go_wp2
            go_roundw
            case rel => exact ⟨k + 1, by omega, by go_num, fun i hi => by
                by_cases e : i = k
                · subst e; exact HF2.out
                · exact HO.out i (by omega), .inr HSS.out, by (repeat (first | exact In.refl _ | assumption | apply In.alloc | apply In.drewN | apply In.drew | (refine In.step ?_ (by assumption))))⟩
            case measure => simp [intOf]; omega
      · obtain rfl : k = 4 := by omega
        have hs : stB n xs = true := by rcases hst with h | h; · omega
                                        · exact h
        have HV : Hid (fmV n xs a b c f = -1) := Lib.hid (by
          have hcan := can_yes (a := a) (b := b) (c := c) (f := f) hs h2
          simp only [fmV, hcan, if_true]
          exact fstP_no HO.out)
        clear hst hs
        go_wp2
        go_ret
        exact Val.mk' (v_int HV.out.symm) (by (repeat (first | exact In.refl _ | assumption | apply In.alloc | apply In.drewN | apply In.drew | (refine In.step ?_ (by assumption)))))
  · have HV : Hid (fmV n xs a b c f = -1) := Lib.hid (by simp [fmV, can_no h2])
    go_wp2_with fail
    refine (sAmounts_no a b c f h2 _).mono ?_
    rintro _ w_1 ⟨g_1, rfl, _, hb_1⟩
    have i_1 : In w.heap.size w w_1 := In.step (by (repeat (first | exact In.refl _ | assumption | apply In.alloc | apply In.drewN | apply In.drew | (refine In.step ?_ (by assumption))))) hb_1
    have k_1_A : Blk w_1 b_A 27 #[.slice (some ad) n cap] := Blk.step (by (with_reducible (repeat (first | assumption | exact Blk.new' (by simp) | apply Blk.drewN | apply Blk.drew | apply Blk.alloc | (refine Blk.far ?_ (by (try simp) <;> omega) _))))) hb_1
    have c_1_A_0 : w_1.cell? ⟨b_A, 0, none⟩ = some (.slice (some ad) n cap) := k_1_A.cell 0
    have l_1_A := k_1_A.lt
    have k_1_D : Blk w_1 b_D 35 #[.int .i64 a, .int .i64 b, .int .i64 c] := Blk.step (by (with_reducible (repeat (first | assumption | exact Blk.new' (by simp) | apply Blk.drewN | apply Blk.drew | apply Blk.alloc | (refine Blk.far ?_ (by (try simp) <;> omega) _))))) hb_1
    have c_1_D_0 : w_1.cell? ⟨b_D, 0, none⟩ = some (.int .i64 a) := k_1_D.cell 0
    have c_1_D_1 : w_1.cell? ⟨b_D, 1, none⟩ = some (.int .i64 b) := k_1_D.cell 1
    have c_1_D_2 : w_1.cell? ⟨b_D, 2, none⟩ = some (.int .i64 c) := k_1_D.cell 2
    have l_1_D := k_1_D.lt
    clear i_0 k_0_A c_0_A_0 l_0_A k_0_D c_0_D_0 c_0_D_1 c_0_D_2 l_0_D hb_0
    go_wp2
    go_loop [8] (fun v => v = .int .i64 0) (fun _ => 0)
    case atStart => rfl
    case round =>
      obtain rfl := hrel
      go_wp2
      go_ret
      exact Val.mk' (v_int HV.out.symm) (by (repeat (first | exact In.refl _ | assumption | apply In.alloc | apply In.drewN | apply In.drew | (refine In.step ?_ (by assumption)))))
theorem sTakeFor (ad : Addr) (n cap : Nat) (xs : List Int) (a b c f : Int) (w : World) (hn : n ≤ 10000000) (hx : ReadsI w (some ad) n xs) : Calls Try.prog 14 #[.agg #[.slice (some ad) n cap], .agg #[.int .i64 a, .int .i64 b, .int .i64 c], .int .i64 f] w (RowStV (TakeForL n xs a b c f) (.bool (tkB n xs a b c f)) w) := by
  have HX := Lib.hid hx
  have hlen := hx.1
  clear hx
  obtain ⟨b_A, hbx_A⟩ : ∃ b, b = w.heap.size := ⟨_, rfl⟩
  have kk_A : Blk (((w.alloc (.cells #[.slice (some ad) n cap] 27)).alloc (.cells #[.int .i64 a, .int .i64 b, .int .i64 c] 35)).alloc (.cells #[.slice none 0 0] 27)) b_A 27 #[.slice (some ad) n cap] := (((Blk.new' (w := w) (t := 27) (cs := #[.slice (some ad) n cap]) (g := b_A) (by simp [hbx_A])).alloc (.cells #[.int .i64 a, .int .i64 b, .int .i64 c] 35)).alloc (.cells #[.slice none 0 0] 27))
  have hwb_A : w.heap.size ≤ b_A := by omega
  obtain ⟨b_D, hbx_D⟩ : ∃ b, b = w.heap.size + 1 := ⟨_, rfl⟩
  have kk_D : Blk (((w.alloc (.cells #[.slice (some ad) n cap] 27)).alloc (.cells #[.int .i64 a, .int .i64 b, .int .i64 c] 35)).alloc (.cells #[.slice none 0 0] 27)) b_D 35 #[.int .i64 a, .int .i64 b, .int .i64 c] := ((Blk.new' (w := (w.alloc (.cells #[.slice (some ad) n cap] 27))) (t := 35) (cs := #[.int .i64 a, .int .i64 b, .int .i64 c]) (g := b_D) (by simp [hbx_D])).alloc (.cells #[.slice none 0 0] 27))
  have hwb_D : w.heap.size ≤ b_D := by omega
  obtain ⟨b_R, hbx_R⟩ : ∃ b, b = w.heap.size + 1 + 1 := ⟨_, rfl⟩
  have kk_R : Blk (((w.alloc (.cells #[.slice (some ad) n cap] 27)).alloc (.cells #[.int .i64 a, .int .i64 b, .int .i64 c] 35)).alloc (.cells #[.slice none 0 0] 27)) b_R 27 #[.slice none 0 0] := (Blk.new' (w := ((w.alloc (.cells #[.slice (some ad) n cap] 27)).alloc (.cells #[.int .i64 a, .int .i64 b, .int .i64 c] 35))) (t := 27) (cs := #[.slice none 0 0]) (g := b_R) (by simp [hbx_R]))
  have hwb_R : w.heap.size ≤ b_R := by omega
  have NB_A_D : Hid (b_A ≠ b_D) := Lib.hid (by omega)
  have NB_A_R : Hid (b_A ≠ b_R) := Lib.hid (by omega)
  have NB_D_R : Hid (b_D ≠ b_R) := Lib.hid (by omega)
  have hb_0 : Below w.heap.size w (((w.alloc (.cells #[.slice (some ad) n cap] 27)).alloc (.cells #[.int .i64 a, .int .i64 b, .int .i64 c] 35)).alloc (.cells #[.slice none 0 0] 27)) := by
    have h : In w.heap.size w (((w.alloc (.cells #[.slice (some ad) n cap] 27)).alloc (.cells #[.int .i64 a, .int .i64 b, .int .i64 c] 35)).alloc (.cells #[.slice none 0 0] 27)) := by (repeat (first | exact In.refl _ | assumption | apply In.alloc | apply In.drewN | apply In.drew | (refine In.step ?_ (by assumption))))
    exact h.below
  go_enter Try.func14, Try.ntmps14
  go_wp2_with fail
  rw [← hbx_R]
  clear hbx_R
  rw [← hbx_D]
  clear hbx_D
  rw [← hbx_A]
  clear hbx_A
  generalize (((w.alloc (.cells #[.slice (some ad) n cap] 27)).alloc (.cells #[.int .i64 a, .int .i64 b, .int .i64 c] 35)).alloc (.cells #[.slice none 0 0] 27)) = w_0 at *
  have i_0 : In w.heap.size w w_0 := In.step (by (repeat (first | exact In.refl _ | assumption | apply In.alloc | apply In.drewN | apply In.drew | (refine In.step ?_ (by assumption))))) hb_0
  have k_0_A : Blk w_0 b_A 27 #[.slice (some ad) n cap] := kk_A
  have c_0_A_0 : w_0.cell? ⟨b_A, 0, none⟩ = some (.slice (some ad) n cap) := k_0_A.cell 0
  have l_0_A := k_0_A.lt
  have k_0_D : Blk w_0 b_D 35 #[.int .i64 a, .int .i64 b, .int .i64 c] := kk_D
  have c_0_D_0 : w_0.cell? ⟨b_D, 0, none⟩ = some (.int .i64 a) := k_0_D.cell 0
  have c_0_D_1 : w_0.cell? ⟨b_D, 1, none⟩ = some (.int .i64 b) := k_0_D.cell 1
  have c_0_D_2 : w_0.cell? ⟨b_D, 2, none⟩ = some (.int .i64 c) := k_0_D.cell 2
  have l_0_D := k_0_D.lt
  have k_0_R : Blk w_0 b_R 27 #[.slice none 0 0] := kk_R
  have c_0_R_0 : w_0.cell? ⟨b_R, 0, none⟩ = some (.slice none 0 0) := k_0_R.cell 0
  have l_0_R := k_0_R.lt
  have z_0_R_0 := k_0_R.frozen 0
  clear kk_A kk_D kk_R
  go_wp2_with fail
  refine (s36Copy ad n cap xs _ (by omega) (HX.out.below (In.below (by (repeat (first | exact In.refl _ | assumption | apply In.alloc | apply In.drewN | apply In.drew | (refine In.step ?_ (by assumption)))))) (Nat.le_refl _))).mono ?_
  rintro _ w_1 ⟨g_1, c_1, rfl, ho_1, hg_1, hb_1⟩
  rw [hlen] at ho_1
  rw [hlen]
  have GX_C : Hid (w.heap.size ≤ g_1) := Lib.hid (by have h1 := hg_1; (try simp at h1); have h2 := In.size i_0; omega)
  have o_1_C : OwnC w_1 g_1 (n) c_1 xs := ho_1
  clear ho_1 hg_1
  have i_1 : In w.heap.size w w_1 := In.step (by (repeat (first | exact In.refl _ | assumption | apply In.alloc | apply In.drewN | apply In.drew | (refine In.step ?_ (by assumption))))) hb_1
  have k_1_A : Blk w_1 b_A 27 #[.slice (some ad) n cap] := Blk.step (by (with_reducible (repeat (first | assumption | exact Blk.new' (by simp) | apply Blk.drewN | apply Blk.drew | apply Blk.alloc | (refine Blk.far ?_ (by (try simp) <;> omega) _))))) hb_1
  have c_1_A_0 : w_1.cell? ⟨b_A, 0, none⟩ = some (.slice (some ad) n cap) := k_1_A.cell 0
  have l_1_A := k_1_A.lt
  have k_1_D : Blk w_1 b_D 35 #[.int .i64 a, .int .i64 b, .int .i64 c] := Blk.step (by (with_reducible (repeat (first | assumption | exact Blk.new' (by simp) | apply Blk.drewN | apply Blk.drew | apply Blk.alloc | (refine Blk.far ?_ (by (try simp) <;> omega) _))))) hb_1
  have c_1_D_0 : w_1.cell? ⟨b_D, 0, none⟩ = some (.int .i64 a) := k_1_D.cell 0
  have c_1_D_1 : w_1.cell? ⟨b_D, 1, none⟩ = some (.int .i64 b) := k_1_D.cell 1
  have c_1_D_2 : w_1.cell? ⟨b_D, 2, none⟩ = some (.int .i64 c) := k_1_D.cell 2
  have l_1_D := k_1_D.lt
  have k_1_R : Blk w_1 b_R 27 #[.slice none 0 0] := Blk.step (by (with_reducible (repeat (first | assumption | exact Blk.new' (by simp) | apply Blk.drewN | apply Blk.drew | apply Blk.alloc | (refine Blk.far ?_ (by (try simp) <;> omega) _))))) hb_1
  have c_1_R_0 : w_1.cell? ⟨b_R, 0, none⟩ = some (.slice none 0 0) := k_1_R.cell 0
  have l_1_R := k_1_R.lt
  have z_1_R_0 := k_1_R.frozen 0
  clear i_0 k_0_A c_0_A_0 l_0_A k_0_D c_0_D_0 c_0_D_1 c_0_D_2 l_0_D k_0_R c_0_R_0 l_0_R z_0_R_0 hb_0
  go_wp2_with fail
  obtain ⟨b_O, hbx_O⟩ : ∃ b, b = w_1.heap.size := ⟨_, rfl⟩
  rw [← hbx_O]
  have hwb_O : w.heap.size ≤ b_O := by have h := In.size i_1; omega
  have NB_A_O : Hid (b_A ≠ b_O) := Lib.hid (by have h := k_1_A.lt; omega)
  have NB_D_O : Hid (b_D ≠ b_O) := Lib.hid (by have h := k_1_D.lt; omega)
  have NB_R_O : Hid (b_R ≠ b_O) := Lib.hid (by have h := k_1_R.lt; omega)
  have hb_2 : Below w_1.heap.size w_1 (w_1.alloc (.cells #[.slice (some ⟨g_1, 0, none⟩) n c_1] 27)) := (Below.refl _ _).alloc (Nat.le_refl _) _
  have kk_2 : Blk (w_1.alloc (.cells #[.slice (some ⟨g_1, 0, none⟩) n c_1] 27)) b_O 27 #[.slice (some ⟨g_1, 0, none⟩) n c_1] := Blk.new' hbx_O
  clear hbx_O
  generalize (w_1.alloc (.cells #[.slice (some ⟨g_1, 0, none⟩) n c_1] 27)) = w_2 at *
  have i_2 : In w.heap.size w w_2 := In.step (by (repeat (first | exact In.refl _ | assumption | apply In.alloc | apply In.drewN | apply In.drew | (refine In.step ?_ (by assumption))))) hb_2
  have k_2_A : Blk w_2 b_A 27 #[.slice (some ad) n cap] := Blk.step (by (with_reducible (repeat (first | assumption | exact Blk.new' (by simp) | apply Blk.drewN | apply Blk.drew | apply Blk.alloc | (refine Blk.far ?_ (by (try simp) <;> omega) _))))) hb_2
  have c_2_A_0 : w_2.cell? ⟨b_A, 0, none⟩ = some (.slice (some ad) n cap) := k_2_A.cell 0
  have l_2_A := k_2_A.lt
  have k_2_D : Blk w_2 b_D 35 #[.int .i64 a, .int .i64 b, .int .i64 c] := Blk.step (by (with_reducible (repeat (first | assumption | exact Blk.new' (by simp) | apply Blk.drewN | apply Blk.drew | apply Blk.alloc | (refine Blk.far ?_ (by (try simp) <;> omega) _))))) hb_2
  have c_2_D_0 : w_2.cell? ⟨b_D, 0, none⟩ = some (.int .i64 a) := k_2_D.cell 0
  have c_2_D_1 : w_2.cell? ⟨b_D, 1, none⟩ = some (.int .i64 b) := k_2_D.cell 1
  have c_2_D_2 : w_2.cell? ⟨b_D, 2, none⟩ = some (.int .i64 c) := k_2_D.cell 2
  have l_2_D := k_2_D.lt
  have k_2_R : Blk w_2 b_R 27 #[.slice none 0 0] := Blk.step (by (with_reducible (repeat (first | assumption | exact Blk.new' (by simp) | apply Blk.drewN | apply Blk.drew | apply Blk.alloc | (refine Blk.far ?_ (by (try simp) <;> omega) _))))) hb_2
  have c_2_R_0 : w_2.cell? ⟨b_R, 0, none⟩ = some (.slice none 0 0) := k_2_R.cell 0
  have l_2_R := k_2_R.lt
  have z_2_R_0 := k_2_R.frozen 0
  have k_2_O : Blk w_2 b_O 27 #[.slice (some ⟨g_1, 0, none⟩) n c_1] := kk_2
  have c_2_O_0 : w_2.cell? ⟨b_O, 0, none⟩ = some (.slice (some ⟨g_1, 0, none⟩) n c_1) := k_2_O.cell 0
  have l_2_O := k_2_O.lt
  have o_2_C : OwnC w_2 g_1 (n) c_1 xs := OwnC.step (by (with_reducible (repeat (first | assumption | apply OwnC.drewN | apply OwnC.drew | apply OwnC.alloc)))) hb_2
  clear i_1 k_1_A c_1_A_0 l_1_A k_1_D c_1_D_0 c_1_D_1 c_1_D_2 l_1_D k_1_R c_1_R_0 l_1_R z_1_R_0 o_1_C hb_1
  clear kk_2
  by_cases h2 : dOk a b c = true ∧ 0 ≤ f ∧ f ≤ 1000000
  · have HAM := Lib.hid (fun i => amV_in (i := i) h2.1 h2.2.1 h2.2.2)
    go_wp2_with fail
    refine (sAm a b c f h2.1 h2.2.1 h2.2.2 _).mono ?_
    rintro _ w_3 ⟨g_3, rfl, ho_3, hg_3, hb_3⟩
    have NE_C_M : Hid (g_1 ≠ g_3) := Lib.hid (by have h1 := hg_3; (try simp at h1); have h2 := OwnC.lt o_2_C; omega)
    have GX_M : Hid (w.heap.size ≤ g_3) := Lib.hid (by have h1 := hg_3; (try simp at h1); have h2 := In.size i_2; omega)
    have o_3_M : OwnC w_3 g_3 (4) 4 (amV a b c f) := ho_3
    clear ho_3 hg_3
    have i_3 : In w.heap.size w w_3 := In.step (by (repeat (first | exact In.refl _ | assumption | apply In.alloc | apply In.drewN | apply In.drew | (refine In.step ?_ (by assumption))))) hb_3
    have k_3_A : Blk w_3 b_A 27 #[.slice (some ad) n cap] := Blk.step (by (with_reducible (repeat (first | assumption | exact Blk.new' (by simp) | apply Blk.drewN | apply Blk.drew | apply Blk.alloc | (refine Blk.far ?_ (by (try simp) <;> omega) _))))) hb_3
    have c_3_A_0 : w_3.cell? ⟨b_A, 0, none⟩ = some (.slice (some ad) n cap) := k_3_A.cell 0
    have l_3_A := k_3_A.lt
    have k_3_D : Blk w_3 b_D 35 #[.int .i64 a, .int .i64 b, .int .i64 c] := Blk.step (by (with_reducible (repeat (first | assumption | exact Blk.new' (by simp) | apply Blk.drewN | apply Blk.drew | apply Blk.alloc | (refine Blk.far ?_ (by (try simp) <;> omega) _))))) hb_3
    have c_3_D_0 : w_3.cell? ⟨b_D, 0, none⟩ = some (.int .i64 a) := k_3_D.cell 0
    have c_3_D_1 : w_3.cell? ⟨b_D, 1, none⟩ = some (.int .i64 b) := k_3_D.cell 1
    have c_3_D_2 : w_3.cell? ⟨b_D, 2, none⟩ = some (.int .i64 c) := k_3_D.cell 2
    have l_3_D := k_3_D.lt
    have k_3_R : Blk w_3 b_R 27 #[.slice none 0 0] := Blk.step (by (with_reducible (repeat (first | assumption | exact Blk.new' (by simp) | apply Blk.drewN | apply Blk.drew | apply Blk.alloc | (refine Blk.far ?_ (by (try simp) <;> omega) _))))) hb_3
    have c_3_R_0 : w_3.cell? ⟨b_R, 0, none⟩ = some (.slice none 0 0) := k_3_R.cell 0
    have l_3_R := k_3_R.lt
    have z_3_R_0 := k_3_R.frozen 0
    have k_3_O : Blk w_3 b_O 27 #[.slice (some ⟨g_1, 0, none⟩) n c_1] := Blk.step (by (with_reducible (repeat (first | assumption | exact Blk.new' (by simp) | apply Blk.drewN | apply Blk.drew | apply Blk.alloc | (refine Blk.far ?_ (by (try simp) <;> omega) _))))) hb_3
    have c_3_O_0 : w_3.cell? ⟨b_O, 0, none⟩ = some (.slice (some ⟨g_1, 0, none⟩) n c_1) := k_3_O.cell 0
    have l_3_O := k_3_O.lt
    have o_3_C : OwnC w_3 g_1 (n) c_1 xs := OwnC.step (by (with_reducible (repeat (first | assumption | apply OwnC.drewN | apply OwnC.drew | apply OwnC.alloc)))) hb_3
    clear i_2 k_2_A c_2_A_0 l_2_A k_2_D c_2_D_0 c_2_D_1 c_2_D_2 l_2_D k_2_R c_2_R_0 l_2_R z_2_R_0 k_2_O c_2_O_0 l_2_O o_2_C hb_2
    go_wp2_with fail
    refine (sStoreOk (some ad) n cap xs _ (by unfold maxLen; omega) (HX.out.below (In.below (by (repeat (first | exact In.refl _ | assumption | apply In.alloc | apply In.drewN | apply In.drew | (refine In.step ?_ (by assumption)))))) (Nat.le_refl _))).mono ?_
    rintro _ w_4 ⟨rfl, hb_4⟩
    have i_4 : In w.heap.size w w_4 := In.step (by (repeat (first | exact In.refl _ | assumption | apply In.alloc | apply In.drewN | apply In.drew | (refine In.step ?_ (by assumption))))) hb_4
    have k_4_A : Blk w_4 b_A 27 #[.slice (some ad) n cap] := Blk.step (by (with_reducible (repeat (first | assumption | exact Blk.new' (by simp) | apply Blk.drewN | apply Blk.drew | apply Blk.alloc | (refine Blk.far ?_ (by (try simp) <;> omega) _))))) hb_4
    have c_4_A_0 : w_4.cell? ⟨b_A, 0, none⟩ = some (.slice (some ad) n cap) := k_4_A.cell 0
    have l_4_A := k_4_A.lt
    have k_4_D : Blk w_4 b_D 35 #[.int .i64 a, .int .i64 b, .int .i64 c] := Blk.step (by (with_reducible (repeat (first | assumption | exact Blk.new' (by simp) | apply Blk.drewN | apply Blk.drew | apply Blk.alloc | (refine Blk.far ?_ (by (try simp) <;> omega) _))))) hb_4
    have c_4_D_0 : w_4.cell? ⟨b_D, 0, none⟩ = some (.int .i64 a) := k_4_D.cell 0
    have c_4_D_1 : w_4.cell? ⟨b_D, 1, none⟩ = some (.int .i64 b) := k_4_D.cell 1
    have c_4_D_2 : w_4.cell? ⟨b_D, 2, none⟩ = some (.int .i64 c) := k_4_D.cell 2
    have l_4_D := k_4_D.lt
    have k_4_R : Blk w_4 b_R 27 #[.slice none 0 0] := Blk.step (by (with_reducible (repeat (first | assumption | exact Blk.new' (by simp) | apply Blk.drewN | apply Blk.drew | apply Blk.alloc | (refine Blk.far ?_ (by (try simp) <;> omega) _))))) hb_4
    have c_4_R_0 : w_4.cell? ⟨b_R, 0, none⟩ = some (.slice none 0 0) := k_4_R.cell 0
    have l_4_R := k_4_R.lt
    have z_4_R_0 := k_4_R.frozen 0
    have k_4_O : Blk w_4 b_O 27 #[.slice (some ⟨g_1, 0, none⟩) n c_1] := Blk.step (by (with_reducible (repeat (first | assumption | exact Blk.new' (by simp) | apply Blk.drewN | apply Blk.drew | apply Blk.alloc | (refine Blk.far ?_ (by (try simp) <;> omega) _))))) hb_4
    have c_4_O_0 : w_4.cell? ⟨b_O, 0, none⟩ = some (.slice (some ⟨g_1, 0, none⟩) n c_1) := k_4_O.cell 0
    have l_4_O := k_4_O.lt
    have o_4_C : OwnC w_4 g_1 (n) c_1 xs := OwnC.step (by (with_reducible (repeat (first | assumption | apply OwnC.drewN | apply OwnC.drew | apply OwnC.alloc)))) hb_4
    have o_4_M : OwnC w_4 g_3 (4) 4 (amV a b c f) := OwnC.step (by (with_reducible (repeat (first | assumption | apply OwnC.drewN | apply OwnC.drew | apply OwnC.alloc)))) hb_4
    clear i_3 k_3_A c_3_A_0 l_3_A k_3_D c_3_D_0 c_3_D_1 c_3_D_2 l_3_D k_3_R c_3_R_0 l_3_R z_3_R_0 k_3_O c_3_O_0 l_3_O o_3_C o_3_M hb_3
    cases hs : stB n xs
    · have HV : Hid (tkB n xs a b c f = false) := Lib.hid (by simp [tkB, can_st hs])
      have HL : Hid (TakeForL n xs a b c f = xs) := Lib.hid (by simp [TakeForL, HV.out])
      have HO : Hid (OwnC (w_4.setCell ⟨b_R, 0, none⟩ (.slice (some ⟨g_1, 0, none⟩) (n) c_1)) g_1 (n) c_1 xs) := Lib.hid (OwnC.far (by (with_reducible (repeat (first | assumption | apply OwnC.drewN | apply OwnC.drew | apply OwnC.alloc)))) (show Blk w_4 b_R 27 #[.slice none 0 0] from k_4_R) (by decide) (only_set _ _))
      have i9 : In w.heap.size w (w_4.setCell ⟨b_R, 0, none⟩ (.slice (some ⟨g_1, 0, none⟩) (n) c_1)) := In.set_ i_4 (p := ⟨b_R, 0, none⟩) hwb_R _
      have HK : Hid ((w_4.setCell ⟨b_R, 0, none⟩ (.slice (some ⟨g_1, 0, none⟩) (n) c_1)).cell? ⟨b_R, 0, none⟩ = some (.slice (some ⟨g_1, 0, none⟩) (n) c_1)) := Lib.hid (by
        have h := (k_4_R.set_ 0 (.slice (some ⟨g_1, 0, none⟩) (n) c_1)).cell 0
        simpa using h)
      have hzr := k_4_R.frozen 0
      clear i_4 o_4_C o_4_M hb_4
      go_wp2
      have hk := HK.out
      exact bodyPost_ret (v := .tuple #[.agg #[.slice (some ⟨g_1, 0, none⟩) (n) c_1], .bool false]) (by simp [results, Try.results14, go_sem, hk]) rfl (by rw [HV.out, HL.out]; exact rowStV_of hlen HO.out GX_C.out i9.below)
    go_wp2_with fail
    refine (sFirstMissing ad n cap xs a b c f _ (by omega) (HX.out.below (In.below (by (repeat (first | exact In.refl _ | assumption | apply In.alloc | apply In.drewN | apply In.drew | (refine In.step ?_ (by assumption)))))) (Nat.le_refl _))).mono ?_
    rintro _ w_5 ⟨rfl, hb_5⟩
    have i_5 : In w.heap.size w w_5 := In.step (by (repeat (first | exact In.refl _ | assumption | apply In.alloc | apply In.drewN | apply In.drew | (refine In.step ?_ (by assumption))))) hb_5
    have k_5_A : Blk w_5 b_A 27 #[.slice (some ad) n cap] := Blk.step (by (with_reducible (repeat (first | assumption | exact Blk.new' (by simp) | apply Blk.drewN | apply Blk.drew | apply Blk.alloc | (refine Blk.far ?_ (by (try simp) <;> omega) _))))) hb_5
    have c_5_A_0 : w_5.cell? ⟨b_A, 0, none⟩ = some (.slice (some ad) n cap) := k_5_A.cell 0
    have l_5_A := k_5_A.lt
    have k_5_D : Blk w_5 b_D 35 #[.int .i64 a, .int .i64 b, .int .i64 c] := Blk.step (by (with_reducible (repeat (first | assumption | exact Blk.new' (by simp) | apply Blk.drewN | apply Blk.drew | apply Blk.alloc | (refine Blk.far ?_ (by (try simp) <;> omega) _))))) hb_5
    have c_5_D_0 : w_5.cell? ⟨b_D, 0, none⟩ = some (.int .i64 a) := k_5_D.cell 0
    have c_5_D_1 : w_5.cell? ⟨b_D, 1, none⟩ = some (.int .i64 b) := k_5_D.cell 1
    have c_5_D_2 : w_5.cell? ⟨b_D, 2, none⟩ = some (.int .i64 c) := k_5_D.cell 2
    have l_5_D := k_5_D.lt
    have k_5_R : Blk w_5 b_R 27 #[.slice none 0 0] := Blk.step (by (with_reducible (repeat (first | assumption | exact Blk.new' (by simp) | apply Blk.drewN | apply Blk.drew | apply Blk.alloc | (refine Blk.far ?_ (by (try simp) <;> omega) _))))) hb_5
    have c_5_R_0 : w_5.cell? ⟨b_R, 0, none⟩ = some (.slice none 0 0) := k_5_R.cell 0
    have l_5_R := k_5_R.lt
    have z_5_R_0 := k_5_R.frozen 0
    have k_5_O : Blk w_5 b_O 27 #[.slice (some ⟨g_1, 0, none⟩) n c_1] := Blk.step (by (with_reducible (repeat (first | assumption | exact Blk.new' (by simp) | apply Blk.drewN | apply Blk.drew | apply Blk.alloc | (refine Blk.far ?_ (by (try simp) <;> omega) _))))) hb_5
    have c_5_O_0 : w_5.cell? ⟨b_O, 0, none⟩ = some (.slice (some ⟨g_1, 0, none⟩) n c_1) := k_5_O.cell 0
    have l_5_O := k_5_O.lt
    have o_5_C : OwnC w_5 g_1 (n) c_1 xs := OwnC.step (by (with_reducible (repeat (first | assumption | apply OwnC.drewN | apply OwnC.drew | apply OwnC.alloc)))) hb_5
    have o_5_M : OwnC w_5 g_3 (4) 4 (amV a b c f) := OwnC.step (by (with_reducible (repeat (first | assumption | apply OwnC.drewN | apply OwnC.drew | apply OwnC.alloc)))) hb_5
    clear i_4 k_4_A c_4_A_0 l_4_A k_4_D c_4_D_0 c_4_D_1 c_4_D_2 l_4_D k_4_R c_4_R_0 l_4_R z_4_R_0 k_4_O c_4_O_0 l_4_O o_4_C o_4_M hb_4
    have hcan := can_yes (a := a) (b := b) (c := c) (f := f) hs h2
    have hfm : fmV n xs a b c f = fstP (lessP xs (amV a b c f)) 4 := by simp [fmV, hcan]
    rw [hfm]
    obtain ⟨q, hq⟩ : ∃ q, fstP (lessP xs (amV a b c f)) 4 = q := ⟨_, rfl⟩
    rw [hq]
    clear hfm
    by_cases h3 : 0 ≤ q
    · have HV : Hid (tkB n xs a b c f = false) := Lib.hid (by simp [tkB, hcan]; omega)
      have HL : Hid (TakeForL n xs a b c f = xs) := Lib.hid (by simp [TakeForL, HV.out])
      have HO : Hid (OwnC (w_5.setCell ⟨b_R, 0, none⟩ (.slice (some ⟨g_1, 0, none⟩) (n) c_1)) g_1 (n) c_1 xs) := Lib.hid (OwnC.far (by (with_reducible (repeat (first | assumption | apply OwnC.drewN | apply OwnC.drew | apply OwnC.alloc)))) (show Blk w_5 b_R 27 #[.slice none 0 0] from k_5_R) (by decide) (only_set _ _))
      have i9 : In w.heap.size w (w_5.setCell ⟨b_R, 0, none⟩ (.slice (some ⟨g_1, 0, none⟩) (n) c_1)) := In.set_ i_5 (p := ⟨b_R, 0, none⟩) hwb_R _
      have HK : Hid ((w_5.setCell ⟨b_R, 0, none⟩ (.slice (some ⟨g_1, 0, none⟩) (n) c_1)).cell? ⟨b_R, 0, none⟩ = some (.slice (some ⟨g_1, 0, none⟩) (n) c_1)) := Lib.hid (by
        have h := (k_5_R.set_ 0 (.slice (some ⟨g_1, 0, none⟩) (n) c_1)).cell 0
        simpa using h)
      have hzr := k_5_R.frozen 0
      clear i_5 o_5_C o_5_M hb_5
      go_wp2
      have hk := HK.out
      exact bodyPost_ret (v := .tuple #[.agg #[.slice (some ⟨g_1, 0, none⟩) (n) c_1], .bool false]) (by simp [results, Try.results14, go_sem, hk]) rfl (by rw [HV.out, HL.out]; exact rowStV_of hlen HO.out GX_C.out i9.below)
    have HV : Hid (tkB n xs a b c f = true) := Lib.hid (by simp [tkB, hcan]; omega)
    obtain ⟨rfl, hst, _⟩ := can_at hcan
    have HL : Hid (TakeForL 4 xs a b c f = subTo 4 xs (amV a b c f) 4) := Lib.hid (by simp [TakeForL, HV.out])
    have HST := Lib.hid hst
    clear hst hcan hq hs
    have o0 : OwnC w_5 g_1 4 c_1 (subTo 4 xs (amV a b c f) 0) := by rw [subTo_0 _ hlen]; exact o_5_C
    clear o_5_C
    go_wp2
    go_loopw [10] (fun v wr => ∃ k : Nat, k ≤ 4 ∧ v = .int .i64 k ∧ OwnC wr g_1 4 c_1 (subTo 4 xs (amV a b c f) k) ∧ w_5.grownBy wr (some g_1)) (fun v _ => 4 - (intOf v).toNat)
    case atStart => exact ⟨0, Nat.zero_le _, rfl, o0, only_refl _ _⟩
    case round =>
      obtain ⟨k, hk, rfl, ho, hg⟩ := hrel
      have kA := k_5_A.grown hg (fun h => (o0.ne k_5_A (by decide)) (Option.some.inj h).symm)
      have kO := k_5_O.grown hg (fun h => (o0.ne k_5_O (by decide)) (Option.some.inj h).symm)
      have kR := k_5_R.grown hg (fun h => (o0.ne k_5_R (by decide)) (Option.some.inj h).symm)
      have cA := kA.cell 0
      have cO := kO.cell 0
      have hM := reads_only o_5_M.reads hg NE_C_M.out.symm
      have hbw : Below w.heap.size w wr := (i_5.wide (below_of_only hg GX_C.out i_5.size)).below
      have i9 : In w.heap.size w wr := i_5.wide (below_of_only hg GX_C.out i_5.size)
      have hr := HX.out.below hbw (Nat.le_refl _)
      clear hbw
      by_cases hlt : k < 4
      · obtain ⟨a', ha', hc⟩ := hM.2 k hlt
        injection ha' with ha'
        subst ha'
        rw [Addr.add_lit, Nat.zero_add] at hc
        obtain ⟨a', ha', hx⟩ := hr.2 k hlt
        injection ha' with ha'
        subst ha'
        have cy := ho.cellI hlt
        have fy := ho.free k
        have HP := Lib.hid (ho.put k (xs.getD k 0 - (amV a b c f).getD k 0))
        rw [subTo_set xs (amV a b c f) hlt] at HP
        have hb1 := HST.out k hlt
        have hb2 := HAM.out k
        have HG2 := Lib.hid (only_setCell hg (p := ⟨g_1, k, none⟩) (.inl rfl) (.int .i64 (xs.getD k 0 - (amV a b c f).getD k 0)))
        generalize (subTo 4 xs (amV a b c f) k).getD k 0 = z at *
        generalize (amV a b c f).getD k 0 = y at *
        generalize xs.getD k 0 = x at *
        have hw64 : IntKind.i64.wrap (x - y) = x - y := IntWalk.i64_in _ (by omega)
        have hw65 : wrap64 (x - y) = x - y := w64 (by omega)
        clear ho hM hr i9 o0
        go_wp2
        go_region
        go_wp2
        go_roundw
        case rel => exact ⟨k + 1, by omega, by go_num, HP.out.drew, only_drew HG2.out⟩
        case measure => simp [intOf]; omega
      · obtain rfl : k = 4 := by omega
        obtain ⟨w_9, rfl⟩ : ∃ x, x = wr := ⟨_, rfl⟩
        have o_9_C : OwnC w_9 g_1 4 c_1 (subTo 4 xs (amV a b c f) 4) := ho
        have i_9 := i9
        have k_9_R := kR
        have cR := kR.cell 0
        have zR := kR.frozen 0
        clear ho i9 hg hr hM o0 kA
        have HO : Hid (OwnC (w_9.setCell ⟨b_R, 0, none⟩ (.slice (some ⟨g_1, 0, none⟩) (4) c_1)) g_1 (4) c_1 (subTo 4 xs (amV a b c f) 4)) := Lib.hid (OwnC.far (by (with_reducible (repeat (first | assumption | apply OwnC.drewN | apply OwnC.drew | apply OwnC.alloc)))) (show Blk w_9 b_R 27 #[.slice none 0 0] from k_9_R) (by decide) (only_set _ _))
        have i9 : In w.heap.size w (w_9.setCell ⟨b_R, 0, none⟩ (.slice (some ⟨g_1, 0, none⟩) (4) c_1)) := In.set_ i_9 (p := ⟨b_R, 0, none⟩) hwb_R _
        have HK : Hid ((w_9.setCell ⟨b_R, 0, none⟩ (.slice (some ⟨g_1, 0, none⟩) (4) c_1)).cell? ⟨b_R, 0, none⟩ = some (.slice (some ⟨g_1, 0, none⟩) (4) c_1)) := Lib.hid (by
          have h := (k_9_R.set_ 0 (.slice (some ⟨g_1, 0, none⟩) (4) c_1)).cell 0
          simpa using h)
        have hzr := k_9_R.frozen 0
        clear o_9_C i_9
        go_wp2
        have hk := HK.out
        exact bodyPost_ret (v := .tuple #[.agg #[.slice (some ⟨g_1, 0, none⟩) (4) c_1], .bool true]) (by simp [results, Try.results14, go_sem, hk]) rfl (by rw [HV.out, HL.out]; exact rowStV_of (subTo_len _ _ _ _) HO.out GX_C.out i9.below)
  · go_wp2_with fail
    refine (sAmounts_no a b c f h2 _).mono ?_
    rintro _ w_3 ⟨g_3, rfl, _, hb_3⟩
    have i_3 : In w.heap.size w w_3 := In.step (by (repeat (first | exact In.refl _ | assumption | apply In.alloc | apply In.drewN | apply In.drew | (refine In.step ?_ (by assumption))))) hb_3
    have k_3_A : Blk w_3 b_A 27 #[.slice (some ad) n cap] := Blk.step (by (with_reducible (repeat (first | assumption | exact Blk.new' (by simp) | apply Blk.drewN | apply Blk.drew | apply Blk.alloc | (refine Blk.far ?_ (by (try simp) <;> omega) _))))) hb_3
    have c_3_A_0 : w_3.cell? ⟨b_A, 0, none⟩ = some (.slice (some ad) n cap) := k_3_A.cell 0
    have l_3_A := k_3_A.lt
    have k_3_D : Blk w_3 b_D 35 #[.int .i64 a, .int .i64 b, .int .i64 c] := Blk.step (by (with_reducible (repeat (first | assumption | exact Blk.new' (by simp) | apply Blk.drewN | apply Blk.drew | apply Blk.alloc | (refine Blk.far ?_ (by (try simp) <;> omega) _))))) hb_3
    have c_3_D_0 : w_3.cell? ⟨b_D, 0, none⟩ = some (.int .i64 a) := k_3_D.cell 0
    have c_3_D_1 : w_3.cell? ⟨b_D, 1, none⟩ = some (.int .i64 b) := k_3_D.cell 1
    have c_3_D_2 : w_3.cell? ⟨b_D, 2, none⟩ = some (.int .i64 c) := k_3_D.cell 2
    have l_3_D := k_3_D.lt
    have k_3_R : Blk w_3 b_R 27 #[.slice none 0 0] := Blk.step (by (with_reducible (repeat (first | assumption | exact Blk.new' (by simp) | apply Blk.drewN | apply Blk.drew | apply Blk.alloc | (refine Blk.far ?_ (by (try simp) <;> omega) _))))) hb_3
    have c_3_R_0 : w_3.cell? ⟨b_R, 0, none⟩ = some (.slice none 0 0) := k_3_R.cell 0
    have l_3_R := k_3_R.lt
    have z_3_R_0 := k_3_R.frozen 0
    have k_3_O : Blk w_3 b_O 27 #[.slice (some ⟨g_1, 0, none⟩) n c_1] := Blk.step (by (with_reducible (repeat (first | assumption | exact Blk.new' (by simp) | apply Blk.drewN | apply Blk.drew | apply Blk.alloc | (refine Blk.far ?_ (by (try simp) <;> omega) _))))) hb_3
    have c_3_O_0 : w_3.cell? ⟨b_O, 0, none⟩ = some (.slice (some ⟨g_1, 0, none⟩) n c_1) := k_3_O.cell 0
    have l_3_O := k_3_O.lt
    have o_3_C : OwnC w_3 g_1 (n) c_1 xs := OwnC.step (by (with_reducible (repeat (first | assumption | apply OwnC.drewN | apply OwnC.drew | apply OwnC.alloc)))) hb_3
    clear i_2 k_2_A c_2_A_0 l_2_A k_2_D c_2_D_0 c_2_D_1 c_2_D_2 l_2_D k_2_R c_2_R_0 l_2_R z_2_R_0 k_2_O c_2_O_0 l_2_O o_2_C hb_2
    go_wp2_with fail
    refine (sStoreOk (some ad) n cap xs _ (by unfold maxLen; omega) (HX.out.below (In.below (by (repeat (first | exact In.refl _ | assumption | apply In.alloc | apply In.drewN | apply In.drew | (refine In.step ?_ (by assumption)))))) (Nat.le_refl _))).mono ?_
    rintro _ w_4 ⟨rfl, hb_4⟩
    have i_4 : In w.heap.size w w_4 := In.step (by (repeat (first | exact In.refl _ | assumption | apply In.alloc | apply In.drewN | apply In.drew | (refine In.step ?_ (by assumption))))) hb_4
    have k_4_A : Blk w_4 b_A 27 #[.slice (some ad) n cap] := Blk.step (by (with_reducible (repeat (first | assumption | exact Blk.new' (by simp) | apply Blk.drewN | apply Blk.drew | apply Blk.alloc | (refine Blk.far ?_ (by (try simp) <;> omega) _))))) hb_4
    have c_4_A_0 : w_4.cell? ⟨b_A, 0, none⟩ = some (.slice (some ad) n cap) := k_4_A.cell 0
    have l_4_A := k_4_A.lt
    have k_4_D : Blk w_4 b_D 35 #[.int .i64 a, .int .i64 b, .int .i64 c] := Blk.step (by (with_reducible (repeat (first | assumption | exact Blk.new' (by simp) | apply Blk.drewN | apply Blk.drew | apply Blk.alloc | (refine Blk.far ?_ (by (try simp) <;> omega) _))))) hb_4
    have c_4_D_0 : w_4.cell? ⟨b_D, 0, none⟩ = some (.int .i64 a) := k_4_D.cell 0
    have c_4_D_1 : w_4.cell? ⟨b_D, 1, none⟩ = some (.int .i64 b) := k_4_D.cell 1
    have c_4_D_2 : w_4.cell? ⟨b_D, 2, none⟩ = some (.int .i64 c) := k_4_D.cell 2
    have l_4_D := k_4_D.lt
    have k_4_R : Blk w_4 b_R 27 #[.slice none 0 0] := Blk.step (by (with_reducible (repeat (first | assumption | exact Blk.new' (by simp) | apply Blk.drewN | apply Blk.drew | apply Blk.alloc | (refine Blk.far ?_ (by (try simp) <;> omega) _))))) hb_4
    have c_4_R_0 : w_4.cell? ⟨b_R, 0, none⟩ = some (.slice none 0 0) := k_4_R.cell 0
    have l_4_R := k_4_R.lt
    have z_4_R_0 := k_4_R.frozen 0
    have k_4_O : Blk w_4 b_O 27 #[.slice (some ⟨g_1, 0, none⟩) n c_1] := Blk.step (by (with_reducible (repeat (first | assumption | exact Blk.new' (by simp) | apply Blk.drewN | apply Blk.drew | apply Blk.alloc | (refine Blk.far ?_ (by (try simp) <;> omega) _))))) hb_4
    have c_4_O_0 : w_4.cell? ⟨b_O, 0, none⟩ = some (.slice (some ⟨g_1, 0, none⟩) n c_1) := k_4_O.cell 0
    have l_4_O := k_4_O.lt
    have o_4_C : OwnC w_4 g_1 (n) c_1 xs := OwnC.step (by (with_reducible (repeat (first | assumption | apply OwnC.drewN | apply OwnC.drew | apply OwnC.alloc)))) hb_4
    clear i_3 k_3_A c_3_A_0 l_3_A k_3_D c_3_D_0 c_3_D_1 c_3_D_2 l_3_D k_3_R c_3_R_0 l_3_R z_3_R_0 k_3_O c_3_O_0 l_3_O o_3_C hb_3
    cases hs : stB n xs
    · have HV : Hid (tkB n xs a b c f = false) := Lib.hid (by simp [tkB, can_st hs])
      have HL : Hid (TakeForL n xs a b c f = xs) := Lib.hid (by simp [TakeForL, HV.out])
      have HO : Hid (OwnC (w_4.setCell ⟨b_R, 0, none⟩ (.slice (some ⟨g_1, 0, none⟩) (n) c_1)) g_1 (n) c_1 xs) := Lib.hid (OwnC.far (by (with_reducible (repeat (first | assumption | apply OwnC.drewN | apply OwnC.drew | apply OwnC.alloc)))) (show Blk w_4 b_R 27 #[.slice none 0 0] from k_4_R) (by decide) (only_set _ _))
      have i9 : In w.heap.size w (w_4.setCell ⟨b_R, 0, none⟩ (.slice (some ⟨g_1, 0, none⟩) (n) c_1)) := In.set_ i_4 (p := ⟨b_R, 0, none⟩) hwb_R _
      have HK : Hid ((w_4.setCell ⟨b_R, 0, none⟩ (.slice (some ⟨g_1, 0, none⟩) (n) c_1)).cell? ⟨b_R, 0, none⟩ = some (.slice (some ⟨g_1, 0, none⟩) (n) c_1)) := Lib.hid (by
        have h := (k_4_R.set_ 0 (.slice (some ⟨g_1, 0, none⟩) (n) c_1)).cell 0
        simpa using h)
      have hzr := k_4_R.frozen 0
      clear i_4 o_4_C hb_4
      go_wp2
      have hk := HK.out
      exact bodyPost_ret (v := .tuple #[.agg #[.slice (some ⟨g_1, 0, none⟩) (n) c_1], .bool false]) (by simp [results, Try.results14, go_sem, hk]) rfl (by rw [HV.out, HL.out]; exact rowStV_of hlen HO.out GX_C.out i9.below)
    have HV : Hid (tkB n xs a b c f = false) := Lib.hid (by simp [tkB, can_no h2])
    have HL : Hid (TakeForL n xs a b c f = xs) := Lib.hid (by simp [TakeForL, HV.out])
    have HO : Hid (OwnC (w_4.setCell ⟨b_R, 0, none⟩ (.slice (some ⟨g_1, 0, none⟩) (n) c_1)) g_1 (n) c_1 xs) := Lib.hid (OwnC.far (by (with_reducible (repeat (first | assumption | apply OwnC.drewN | apply OwnC.drew | apply OwnC.alloc)))) (show Blk w_4 b_R 27 #[.slice none 0 0] from k_4_R) (by decide) (only_set _ _))
    have i9 : In w.heap.size w (w_4.setCell ⟨b_R, 0, none⟩ (.slice (some ⟨g_1, 0, none⟩) (n) c_1)) := In.set_ i_4 (p := ⟨b_R, 0, none⟩) hwb_R _
    have HK : Hid ((w_4.setCell ⟨b_R, 0, none⟩ (.slice (some ⟨g_1, 0, none⟩) (n) c_1)).cell? ⟨b_R, 0, none⟩ = some (.slice (some ⟨g_1, 0, none⟩) (n) c_1)) := Lib.hid (by
      have h := (k_4_R.set_ 0 (.slice (some ⟨g_1, 0, none⟩) (n) c_1)).cell 0
      simpa using h)
    have hzr := k_4_R.frozen 0
    clear i_4 o_4_C hb_4
    go_wp2
    have hk := HK.out
    exact bodyPost_ret (v := .tuple #[.agg #[.slice (some ⟨g_1, 0, none⟩) (n) c_1], .bool false]) (by simp [results, Try.results14, go_sem, hk]) rfl (by rw [HV.out, HL.out]; exact rowStV_of hlen HO.out GX_C.out i9.below)
end Go.Proofs.Ythadanmiomeehaa
