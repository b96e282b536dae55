/- Chapter 6: LeastShift. -/
import Derived.Test.YtgjbbidcpmglbaaK06
namespace Go.Proofs.Ytgjbbidcpmglbaa
open Go.ChangeShapes Go.WideShapes Go.ChangeAt Go.RowKit
set_option linter.unusedVariables false
set_option linter.unusedSimpArgs false

def firstOr (p : Int → Bool) : Nat → Int → Int
  | 0, _ => -1
  | k + 1, g => if p g then g else firstOr p k (g + 1)
def shP (n : Nat) (xs : List StepR) (m : Nat) (ys : List StepR) (r s : Int) : Bool := clashV n xs m ys r (r - s) == 0
def shiftV (n : Nat) (xs : List StepR) (m : Nat) (ys : List StepR) (r : Int) : Int := if okB n xs r && stepsB m ys then firstOr (shP n xs m ys r) (r + 1).toNat 0 else -1
theorem ok_same {n : Nat} {xs : List StepR} {m : Nat} {ys : List StepR} {r : Int} (h : okB n xs r = true) : okB m ys r = stepsB m ys := by
  simp only [okB, Bool.and_eq_true] at h
  simp [okB, h.2]
set_option maxHeartbeats 2000000 in
theorem iLeastShift (A : Option Addr) (n c : Nat) (xs : List StepR) (B : Option Addr) (m d : Nat) (ys : List StepR) (r : Int) (w : World) (hn : n ≤ maxLen) (hx : ReadsStep w A n xs) (hm : m ≤ maxLen) (hy : ReadsStep w B m ys) :
    Calls Try.prog 24 #[.slice A n c, .slice B m d, .int .i64 r] w (Val (i64 (shiftV n xs m ys r)) w) := by
  cases h1 : okB n xs r
  · have HV : Hid (shiftV n xs m ys r = -1) := Lib.hid (by simp [shiftV, h1])
    go_enter Try.func24, Try.ntmps24
    go_wp2_with fail
    refine (icanStart A n c xs r _ hn (by exact hx.in_ (by (repeat (first | exact In.refl _ | assumption | apply In.alloc | apply In.drewN | apply In.drew | (refine In.step ?_ (by assumption))))))).mono ?_
    rintro _ w1 ⟨rfl, hb1⟩
    rw [h1]
    go_wp2
    go_ret
    exact Val.mk' (v_int HV.out.symm) (by (repeat (first | exact In.refl _ | assumption | apply In.alloc | apply In.drewN | apply In.drew | (refine In.step ?_ (by assumption)))))
  have h1r := ok_at h1
  obtain ⟨_, r1, r2, _⟩ := h1r
  have hsm := ok_same (m := m) (ys := ys) h1
  cases h2 : stepsB m ys
  · have HV : Hid (shiftV n xs m ys r = -1) := Lib.hid (by simp [shiftV, h2])
    have HM := Lib.hid (hsm.trans h2)
    clear hsm
    go_enter Try.func24, Try.ntmps24
    go_wp2_with fail
    refine (icanStart A n c xs r _ hn (by exact hx.in_ (by (repeat (first | exact In.refl _ | assumption | apply In.alloc | apply In.drewN | apply In.drew | (refine In.step ?_ (by assumption))))))).mono ?_
    rintro _ w1 ⟨rfl, hb1⟩
    rw [h1]
    have i1 : In w.heap.size w w1 := In.step (by (repeat (first | exact In.refl _ | assumption | apply In.alloc | apply In.drewN | apply In.drew | (refine In.step ?_ (by assumption))))) hb1
    clear hb1
    go_wp2_with fail
    refine (icanStart B m d ys r _ hm (by exact hy.in_ (by (repeat (first | exact In.refl _ | assumption | apply In.alloc | apply In.drewN | apply In.drew | (refine In.step ?_ (by assumption))))))).mono ?_
    rintro _ w2 ⟨rfl, hb2⟩
    rw [HM.out]
    go_wp2
    go_ret
    exact Val.mk' (v_int HV.out.symm) (by (repeat (first | exact In.refl _ | assumption | apply In.alloc | apply In.drewN | apply In.drew | (refine In.step ?_ (by assumption)))))
  have HM := Lib.hid (hsm.trans h2)
  clear hsm
  have HV : Hid (shiftV n xs m ys r = firstOr (shP n xs m ys r) (r + 1).toNat 0) := Lib.hid (by simp [shiftV, h1, h2])
  have H1 := Lib.hid h1
  clear h1 h2
  go_enter Try.func24, Try.ntmps24
  go_wp2_with fail
  refine (icanStart A n c xs r _ hn (by exact hx.in_ (by (repeat (first | exact In.refl _ | assumption | apply In.alloc | apply In.drewN | apply In.drew | (refine In.step ?_ (by assumption))))))).mono ?_
  rintro _ w1 ⟨rfl, hb1⟩
  rw [H1.out]
  have i1 : In w.heap.size w w1 := In.step (by (repeat (first | exact In.refl _ | assumption | apply In.alloc | apply In.drewN | apply In.drew | (refine In.step ?_ (by assumption))))) hb1
  clear hb1
  go_wp2_with fail
  refine (icanStart B m d ys r _ hm (by exact hy.in_ (by (repeat (first | exact In.refl _ | assumption | apply In.alloc | apply In.drewN | apply In.drew | (refine In.step ?_ (by assumption))))))).mono ?_
  rintro _ w2 ⟨rfl, hb2⟩
  rw [HM.out]
  have i2 : In w.heap.size w w2 := In.step (by (repeat (first | exact In.refl _ | assumption | apply In.alloc | apply In.drewN | apply In.drew | (refine In.step ?_ (by assumption))))) hb2
  clear hb2 i1
  go_wp2_with fail
  go_loopw [7] (fun t wr => ∃ s : Int, 0 ≤ s ∧ s ≤ r + 1 ∧ t = .int .i64 s ∧ shiftV n xs m ys r = firstOr (shP n xs m ys r) (r + 1 - s).toNat s ∧ In w.heap.size w wr) (fun t _ => (r + 1 - intOf t).toNat)
  case atStart => exact ⟨0, by omega, by omega, rfl, by rw [HV.out]; simp, i2⟩
  case round =>
    clear i2
    obtain ⟨s, s1, s2, rfl, hv, hi⟩ := hrel
    have HD := Lib.hid hv
    clear hv
    by_cases hlt : s ≤ r
    · have HS : Hid (firstOr (shP n xs m ys r) (r + 1 - s).toNat s = if shP n xs m ys r s = true then s else firstOr (shP n xs m ys r) (r + 1 - (s + 1)).toNat (s + 1)) := Lib.hid (by rw [show (r + 1 - s).toNat = (r + 1 - (s + 1)).toNat + 1 from by omega]; rfl)
      go_wp2_with fail
      refine (iWorkClash A n c xs B m d ys r (r - s) _ hn (by exact hx.in_ (by (repeat (first | exact In.refl _ | assumption | apply In.alloc | apply In.drewN | apply In.drew | (refine In.step ?_ (by assumption)))))) hm (by exact hy.in_ (by (repeat (first | exact In.refl _ | assumption | apply In.alloc | apply In.drewN | apply In.drew | (refine In.step ?_ (by assumption))))))).mono ?_
      rintro _ w3 ⟨rfl, hb3⟩
      have HP : Hid (shP n xs m ys r s = (clashV n xs m ys r (r - s) == 0)) := Lib.hid rfl
      cases ht : (clashV n xs m ys r (r - s) == 0)
      · have HT : Hid (shP n xs m ys r s = false) := Lib.hid (HP.out.trans ht)
        go_wp2
        go_roundw
        case rel => exact ⟨s + 1, by omega, by omega, rfl, by rw [HD.out, HS.out, HT.out]; simp, by (repeat (first | exact In.refl _ | assumption | apply In.alloc | apply In.drewN | apply In.drew | (refine In.step ?_ (by assumption))))⟩
        case measure => simp [intOf]; omega
      · have HT : Hid (shP n xs m ys r s = true) := Lib.hid (HP.out.trans ht)
        go_wp2
        go_ret
        exact Val.mk' (v_int (by rw [HD.out, HS.out, if_pos HT.out])) (by (repeat (first | exact In.refl _ | assumption | apply In.alloc | apply In.drewN | apply In.drew | (refine In.step ?_ (by assumption)))))
    · obtain rfl : s = r + 1 := by omega
      have HE : Hid (firstOr (shP n xs m ys r) (r + 1 - (r + 1)).toNat (r + 1) = -1) := Lib.hid (by rw [Int.sub_self]; rfl)
      go_wp2
      go_ret
      exact Val.mk' (v_int (by rw [HD.out, HE.out])) (by (repeat (first | exact In.refl _ | assumption | apply In.alloc | apply In.drewN | apply In.drew | (refine In.step ?_ (by assumption)))))
end Go.Proofs.Ytgjbbidcpmglbaa
