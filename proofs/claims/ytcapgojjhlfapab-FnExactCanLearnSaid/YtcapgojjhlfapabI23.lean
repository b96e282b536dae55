/- Chapter 23: LearnOrder, CanLearn. -/
import Derived.Test.YtcapgojjhlfapabG23
namespace Go.Proofs.Ytcapgojjhlfapab
open Go.ChangeShapes Go.WideShapes Go.ChangeAt Go.RowKit
set_option linter.unusedVariables false
set_option linter.unusedSimpArgs false
set_option maxHeartbeats 2000000

def LearnOrderL (n : Nat) (xs : List SkillR) : List Int := if skOk n xs then ordV n xs else []
theorem LearnOrderL_len (n : Nat) (xs : List SkillR) : (LearnOrderL n xs).length ≤ 100000 := by
  unfold LearnOrderL
  split
  · rename_i h
    have := skOk_at h
    omega
  · simp
def CanLearnL (n : Nat) (xs : List SkillR) (m : Nat) (ts : List Int) : List Int := if knB n xs m ts then idxTo (openB xs ts) n else []
theorem CanLearnL_len (n : Nat) (xs : List SkillR) (m : Nat) (ts : List Int) : (CanLearnL n xs m ts).length ≤ 100000 := by
  unfold CanLearnL
  split
  · rename_i h
    simp only [knB, Bool.and_eq_true] at h
    have := (skOk_at h.1).1
    have := idxTo_len (openB xs ts) n
    omega
  · simp
theorem sLearnOrder (A : Option Addr) (n c : Nat) (xs : List SkillR) (w : World) (hn : n ≤ maxLen) (hx : ReadsSkill w A n xs) : Calls Try.prog 21 #[.slice A n c] w (RowB (LearnOrderL n xs) w) := by
  have HV : Hid (LearnOrderL n xs = if skOk n xs then ordV n xs else []) := Lib.hid rfl
  go_enter Try.func21, Try.ntmps21
  go_wp2_with fail
  refine (sSkillsOk A n c xs _ hn hx).mono ?_
  rintro _ w1 ⟨rfl, hb1⟩
  cases h1 : skOk n xs
  · have HE : Hid (LearnOrderL n xs = []) := Lib.hid (by rw [HV.out, h1]; rfl)
    go_wp2
    go_ret
    rw [HE.out]
    exact rowB_lit (w := w1) #[] 0 [] (by (repeat (first | exact In.refl _ | assumption | apply In.alloc | apply In.drewN | apply In.drew | (refine In.step ?_ (by assumption))))) rfl rfl (by unfold maxLen; omega)
  have HE : Hid (LearnOrderL n xs = ordV n xs) := Lib.hid (by rw [HV.out, h1]; rfl)
  have hn12 := (skOk_at h1).1
  have hI1 : In w.heap.size w w1 := by (repeat (first | exact In.refl _ | assumption | apply In.alloc | apply In.drewN | apply In.drew | (refine In.step ?_ (by assumption))))
  have HC := Lib.hid (sOrder A n c xs w1 (by omega) (skOk_at h1).2.1 (hx.in_ hI1))
  clear h1 HV
  go_wp2_with fail
  refine HC.out.mono ?_
  rintro _ w2 ⟨B, d, rfl, ho, hb2⟩
  go_wp2
  go_ret
  rw [HE.out]
  exact rowB_of rfl (own_base ho hI1.size) (hI1.step hb2).below
theorem iLearnOrder (A : Option Addr) (n c : Nat) (xs : List SkillR) (w : World) (hn : n ≤ maxLen) (hx : ReadsSkill w A n xs) : Calls Try.prog 22 #[.slice A n c] w (RowB (LearnOrderL n xs) w) := by
  have HV : Hid (LearnOrderL n xs = if skOk n xs then ordV n xs else []) := Lib.hid rfl
  go_enter Try.func22, Try.ntmps22
  go_wp2_with fail
  refine (iSkillsOk A n c xs _ hn hx).mono ?_
  rintro _ w1 ⟨rfl, hb1⟩
  cases h1 : skOk n xs
  · have HE : Hid (LearnOrderL n xs = []) := Lib.hid (by rw [HV.out, h1]; rfl)
    go_wp2
    go_ret
    rw [HE.out]
    exact rowB_nil w w1 (by (repeat (first | exact In.refl _ | assumption | apply In.alloc | apply In.drewN | apply In.drew | (refine In.step ?_ (by assumption)))))
  have HE : Hid (LearnOrderL n xs = ordV n xs) := Lib.hid (by rw [HV.out, h1]; rfl)
  have hn12 := (skOk_at h1).1
  have hI1 : In w.heap.size w w1 := by (repeat (first | exact In.refl _ | assumption | apply In.alloc | apply In.drewN | apply In.drew | (refine In.step ?_ (by assumption))))
  have HC := Lib.hid (iOrder A n c xs w1 (by omega) (hx.in_ hI1))
  clear h1 HV
  go_wp2_with fail
  refine HC.out.mono ?_
  rintro _ w2 ⟨B, d, rfl, ho, hb2⟩
  go_wp2
  go_ret
  rw [HE.out]
  exact rowB_of rfl (own_base ho hI1.size) (hI1.step hb2).below
end Go.Proofs.Ytcapgojjhlfapab
