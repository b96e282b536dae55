/- Chapter 23: SkillsOk. -/
import Derived.Test.YtcapgojjhlfapabE23
namespace Go.Proofs.Ytcapgojjhlfapab
open Go.ChangeShapes Go.WideShapes Go.ChangeAt Go.RowKit
set_option linter.unusedVariables false
set_option linter.unusedSimpArgs false
set_option maxHeartbeats 2000000

set_option maxHeartbeats 4000000 in
theorem sSkillsOk (A : Option Addr) (n c : Nat) (xs : List SkillR) (w : World) (hn : n ≤ maxLen) (hx : ReadsSkill w A n xs) : Calls Try.prog 10 #[.slice A n c] w (Val (.bool (skOk n xs)) w) := by
  unfold maxLen at hn
  by_cases h12 : 12 < n
  · have HF : Hid (skOk n xs = false) := Lib.hid (by simp [skOk]; omega)
    go_enter Try.func10, Try.ntmps10
    go_wp2
    go_ret
    exact Val.mk' (v_bool HF.out.symm) (by (repeat (first | exact In.refl _ | assumption | apply In.alloc | apply In.drewN | apply In.drew | (refine In.step ?_ (by assumption)))))
  have HXX := Lib.hid hx
  clear hx
  go_enter Try.func10, Try.ntmps10
  go_wp2
  go_loopw [3] (fun i wr => ∃ k : Nat, k ≤ n ∧ i = .int .i64 k ∧ (∀ i, i < k → okS n xs i = true) ∧ In w.heap.size w wr) (fun i _ => n - (intOf i).toNat)
  case atStart => exact ⟨0, Nat.zero_le _, rfl, fun i hi => absurd hi (Nat.not_lt_zero _), by (repeat (first | exact In.refl _ | assumption | apply In.alloc | apply In.drewN | apply In.drew | (refine In.step ?_ (by assumption))))⟩
  case round =>
    obtain ⟨k, hk, rfl, ho, hi⟩ := hrel
    have HO := Lib.hid ho
    clear ho
    by_cases hlt : k < n
    · obtain ⟨a, rfl, C, c', ⟨h0, h1⟩, g1, g2, hr⟩ := (HXX.out.in_ hi).2 k hlt
      have HK : Hid (okS n xs k = (inB (xs.getD k z23).f1 1 100 && (risB (xs.getD k z23).f0 0 ((n : Int) - 1) (xs.getD k z23).f0.length && !hasN (xs.getD k z23).f0 k))) := Lib.hid rfl
      have HF : Hid (okS n xs k = false → skOk n xs = false) := Lib.hid (skOk_f k hlt)
      generalize xs.getD k z23 = x at *
      obtain ⟨x0, x1⟩ := x
      simp only at h0 h1 g1 hr HK
      have hm : x0.length ≤ maxLen := Nat.le_trans g1 g2
      have HR := Lib.hid hr
      clear g1 g2 hr
      cases e1 : inB x1 1 100
      · go_wp2_with fail
        refine (sInE e1 _).mono ?_
        rintro _ _ ⟨rfl, rfl⟩
        have HG := Lib.hid (HF.out (by rw [HK.out, e1]; simp))
        go_wp2
        go_ret
        exact Val.mk' (v_bool HG.out.symm) (by (repeat (first | exact In.refl _ | assumption | apply In.alloc | apply In.drewN | apply In.drew | (refine In.step ?_ (by assumption)))))
      go_wp2_with fail
      refine (sInE e1 _).mono ?_
      rintro _ _ ⟨rfl, rfl⟩
      go_wp2_with fail
      refine (sRising C x0.length c' x0 0 ((n : Int) - 1) _ hm HR.out).mono ?_
      rintro _ w1 ⟨rfl, hb1⟩
      cases e2 : risB x0 0 ((n : Int) - 1) x0.length
      · have HG := Lib.hid (HF.out (by rw [HK.out, e1, e2]; simp))
        go_wp2
        go_ret
        exact Val.mk' (v_bool HG.out.symm) (by (repeat (first | exact In.refl _ | assumption | apply In.alloc | apply In.drewN | apply In.drew | (refine In.step ?_ (by assumption)))))
      have h0' := cell_in h0 (show In wr.heap.size wr w1 from ⟨hb1, hb1.size⟩)
      go_wp2_with fail
      refine (sHas C x0.length c' x0 k _ hm (HR.out.below hb1 (Nat.le_refl _))).mono ?_
      rintro _ _ ⟨rfl, rfl⟩
      cases e3 : hasN x0 k
      · have HT : Hid (okS n xs k = true) := Lib.hid (by rw [HK.out, e1, e2, e3]; rfl)
        go_wp2
        go_roundw
        case rel => exact ⟨k + 1, by omega, by go_num, fun i hi => by
            by_cases e : i = k
            · subst e; exact HT.out
            · exact HO.out i (by omega), by (repeat (first | exact In.refl _ | assumption | apply In.alloc | apply In.drewN | apply In.drew | (refine In.step ?_ (by assumption))))⟩
        case measure => simp [intOf]; omega
      · have HG := Lib.hid (HF.out (by rw [HK.out, e1, e2, e3]; simp))
        go_wp2
        go_ret
        exact Val.mk' (v_bool HG.out.symm) (by (repeat (first | exact In.refl _ | assumption | apply In.alloc | apply In.drewN | apply In.drew | (refine In.step ?_ (by assumption)))))
    · obtain rfl : k = n := by omega
      have HE := Lib.hid (skOk_n (by omega) HO.out)
      have HC := Lib.hid (sOrder A k c xs _ (by omega) HO.out (HXX.out.in_ hi))
      go_wp2_with fail
      refine HC.out.mono ?_
      rintro _ w1 ⟨B, d, rfl, ho, hb1⟩
      clear ho
      generalize ordV k xs = V at *
      go_wp2
      go_ret
      exact Val.mk' (v_bool (by rw [HE.out, Bool.eq_iff_iff, beq_iff_eq, decide_eq_true_eq]; omega)) (by (repeat (first | exact In.refl _ | assumption | apply In.alloc | apply In.drewN | apply In.drew | (refine In.step ?_ (by assumption)))))
set_option maxHeartbeats 4000000 in
theorem iSkillsOk (A : Option Addr) (n c : Nat) (xs : List SkillR) (w : World) (hn : n ≤ maxLen) (hx : ReadsSkill w A n xs) : Calls Try.prog 12 #[.slice A n c] w (Val (.bool (skOk n xs)) w) := by
  unfold maxLen at hn
  by_cases h12 : 12 < n
  · have HF : Hid (skOk n xs = false) := Lib.hid (by simp [skOk]; omega)
    go_enter Try.func12, Try.ntmps12
    go_wp2
    go_ret
    exact Val.mk' (v_bool HF.out.symm) (by (repeat (first | exact In.refl _ | assumption | apply In.alloc | apply In.drewN | apply In.drew | (refine In.step ?_ (by assumption)))))
  have HXX := Lib.hid hx
  clear hx
  go_enter Try.func12, Try.ntmps12
  go_wp2
  go_loopw [10] (fun i wr => ∃ k : Nat, k ≤ n ∧ i = .int .i64 k ∧ (∀ i, i < k → okS n xs i = true) ∧ In w.heap.size w wr) (fun i _ => n - (intOf i).toNat)
  case atStart => exact ⟨0, Nat.zero_le _, rfl, fun i hi => absurd hi (Nat.not_lt_zero _), by (repeat (first | exact In.refl _ | assumption | apply In.alloc | apply In.drewN | apply In.drew | (refine In.step ?_ (by assumption))))⟩
  case round =>
    obtain ⟨k, hk, rfl, ho, hi⟩ := hrel
    have HO := Lib.hid ho
    clear ho
    by_cases hlt : k < n
    · obtain ⟨a, rfl, C, c', ⟨h0, h1⟩, g1, g2, hr⟩ := (HXX.out.in_ hi).2 k hlt
      have HK : Hid (okS n xs k = (inB (xs.getD k z23).f1 1 100 && (risB (xs.getD k z23).f0 0 ((n : Int) - 1) (xs.getD k z23).f0.length && !hasN (xs.getD k z23).f0 k))) := Lib.hid rfl
      have HF : Hid (okS n xs k = false → skOk n xs = false) := Lib.hid (skOk_f k hlt)
      generalize xs.getD k z23 = x at *
      obtain ⟨x0, x1⟩ := x
      simp only at h0 h1 g1 hr HK
      have hm : x0.length ≤ maxLen := Nat.le_trans g1 g2
      have HR := Lib.hid hr
      clear g1 g2 hr
      have kb : Blk (wr.alloc (.cells #[.slice C x0.length c', .int .i64 x1] 43)) wr.heap.size 43 #[.slice C x0.length c', .int .i64 x1] := Blk.new wr _ _
      have HC1 := Lib.hid (fun o => iRis (some a) n c C x0.length c' x0 (wr.alloc o) (by omega) hm (HR.out.alloc o))
      cases e1 : inB x1 1 100
      · go_wp2_with fail
        refine (iInE e1 _).mono ?_
        rintro _ _ ⟨rfl, rfl⟩
        have HG := Lib.hid (HF.out (by rw [HK.out, e1]; simp))
        go_wp2
        go_ret
        exact Val.mk' (v_bool HG.out.symm) (by (repeat (first | exact In.refl _ | assumption | apply In.alloc | apply In.drewN | apply In.drew | (refine In.step ?_ (by assumption)))))
      go_wp2_with fail
      refine (iInE e1 _).mono ?_
      rintro _ _ ⟨rfl, rfl⟩
      go_wp2_with fail
      refine (HC1.out _).mono ?_
      rintro _ w1 ⟨rfl, hb1⟩
      cases e2 : risB x0 0 ((n : Int) - 1) x0.length
      · have HG := Lib.hid (HF.out (by rw [HK.out, e1, e2]; simp))
        go_wp2
        go_ret
        exact Val.mk' (v_bool HG.out.symm) (by (repeat (first | exact In.refl _ | assumption | apply In.alloc | apply In.drewN | apply In.drew | (refine In.step ?_ (by assumption)))))
      have hi1 : In w.heap.size w w1 := In.step (by (repeat (first | exact In.refl _ | assumption | apply In.alloc | apply In.drewN | apply In.drew | (refine In.step ?_ (by assumption))))) hb1
      have h0' := (kb.step hb1).cell 0
      have hr1 : ReadsI w1 C x0.length x0 := (HR.out.alloc (.cells #[.slice C x0.length c', .int .i64 x1] 43)).below hb1 (Nat.le_refl _)
      simp at h0'
      clear kb hb1
      go_wp2_with fail
      refine (iCont C x0.length c' x0 k _ hm hr1).mono ?_
      rintro _ _ ⟨rfl, rfl⟩
      clear hr1
      cases e3 : hasN x0 k
      · have HT : Hid (okS n xs k = true) := Lib.hid (by rw [HK.out, e1, e2, e3]; rfl)
        go_wp2
        go_roundw
        case rel => exact ⟨k + 1, by omega, by go_num, fun i hi => by
            by_cases e : i = k
            · subst e; exact HT.out
            · exact HO.out i (by omega), by (repeat (first | exact In.refl _ | assumption | apply In.alloc | apply In.drewN | apply In.drew | (refine In.step ?_ (by assumption))))⟩
        case measure => simp [intOf]; omega
      · have HG := Lib.hid (HF.out (by rw [HK.out, e1, e2, e3]; simp))
        go_wp2
        go_ret
        exact Val.mk' (v_bool HG.out.symm) (by (repeat (first | exact In.refl _ | assumption | apply In.alloc | apply In.drewN | apply In.drew | (refine In.step ?_ (by assumption)))))
    · obtain rfl : k = n := by omega
      have HE := Lib.hid (skOk_n (by omega) HO.out)
      have HC := Lib.hid (iOrder A k c xs _ (by omega) (HXX.out.in_ hi))
      go_wp2_with fail
      refine HC.out.mono ?_
      rintro _ w1 ⟨B, d, rfl, ho, hb1⟩
      clear ho
      generalize ordV k xs = V at *
      go_wp2
      go_ret
      exact Val.mk' (v_bool (by rw [HE.out, Bool.eq_iff_iff, beq_iff_eq, decide_eq_true_eq]; omega)) (by (repeat (first | exact In.refl _ | assumption | apply In.alloc | apply In.drewN | apply In.drew | (refine In.step ?_ (by assumption)))))
end Go.Proofs.Ytcapgojjhlfapab
