/- Chapter 6: StartTimes. -/
import Derived.Test.YtgjbbidcpmglbaaC06
import Derived.Test.YtgjbbidcpmglbaaIntI
import Derived.Deep.QuietTactic
import Derived.BigQuiet
namespace Go.Proofs.Ytgjbbidcpmglbaa
open Go.ChangeShapes Go.WideShapes Go.ChangeAt Go.RowKit
set_option linter.unusedVariables false
set_option linter.unusedSimpArgs false

def okB (n : Nat) (xs : List StepR) (r : Int) : Bool := stepsB n xs && inB r 0 1440
theorem icanStart (A : Option Addr) (n c : Nat) (xs : List StepR) (r : Int) (w : World) (hn : n ≤ maxLen) (hx : ReadsStep w A n xs) : Calls Try.prog 68 #[.slice A n c, .int .i64 r] w (Val (.bool (okB n xs r)) w) := by
  cases h1 : stepsB n xs <;> cases h2 : inB r 0 1440
  all_goals
    go_enter Try.func68, Try.ntmps68
    go_wp2_with (first | (go_at_call 66; refine (iIn _ _ _ _).mono ?_; rintro e w' ⟨rfl, rfl⟩) | (go_at_call 25; refine (iStepsOk A n c xs _ hn hx).mono ?_; rintro _ w1 ⟨rfl, hb1⟩) | go_in | (go_end0; simp only []; go_at_K))
    go_ret
    exact Val.mk' (v_bool (by simp [okB, h1, h2])) (by (repeat (first | exact In.refl _ | assumption | apply In.alloc | apply In.drewN | apply In.drew | (refine In.step ?_ (by assumption)))))
def stV (n : Nat) (xs : List StepR) (r : Int) (k : Nat) : Int := r - sumTo (stG xs) n + sumTo (stG xs) k
def stL (n : Nat) (xs : List StepR) (r : Int) (k : Nat) : List Int := (List.range k).map fun (i : Nat) => stV n xs r i
def StartL (n : Nat) (xs : List StepR) (r : Int) : List Int := if okB n xs r = true then stL n xs r n else []
theorem stL_len (n : Nat) (xs : List StepR) (r : Int) (k : Nat) : (stL n xs r k).length = k := by simp [stL]
theorem stL_succ (n : Nat) (xs : List StepR) (r : Int) (k : Nat) : stL n xs r (k + 1) = stL n xs r k ++ [stV n xs r k] := by simp [stL, List.range_succ]
theorem stL_at (n : Nat) (xs : List StepR) (r : Int) (k i : Nat) (h : i < k) : (stL n xs r k).getD i 0 = stV n xs r i := by simp [stL, h]
theorem StartL_len (n : Nat) (xs : List StepR) (r : Int) : (StartL n xs r).length ≤ 12 := by
  unfold StartL
  split
  · rename_i h
    simp only [okB, Bool.and_eq_true] at h
    rw [stL_len]; exact (steps_at h.1).1
  · simp
theorem ok_at {n : Nat} {xs : List StepR} {r : Int} (h : okB n xs r = true) : stepsB n xs = true ∧ 0 ≤ r ∧ r ≤ 1440 ∧ n ≤ 12 ∧ (∀ i, i < n → 0 ≤ stG xs i ∧ stG xs i ≤ 1300) ∧ wholeV n xs = sumTo (stG xs) n := by
  simp only [okB, Bool.and_eq_true] at h
  obtain ⟨h1, h2⟩ := steps_at h.1
  have h3 := inB_tt h.2
  refine ⟨h.1, h3.1, h3.2, h1, fun i hi => by have := h2 i hi; simp only [stG]; omega, by simp [wholeV, h.1]⟩
set_option maxHeartbeats 2000000 in
theorem iStartTimes (A : Option Addr) (n c : Nat) (xs : List StepR) (r : Int) (w : World) (hn : n ≤ maxLen) (hx : ReadsStep w A n xs) : Calls Try.prog 21 #[.slice A n c, .int .i64 r] w (RowB (StartL n xs r) w) := by
  obtain ⟨i0, hi0, hz0, hz1, hz2⟩ := info_parts infoI
  cases hB : okB n xs r
  · have HV : Hid (StartL n xs r = []) := Lib.hid (by simp [StartL, hB])
    go_enter Try.func21, Try.ntmps21
    go_wp2_with fail
    refine (icanStart A n c xs r _ hn (by exact hx.in_ (by (repeat (first | exact In.refl _ | assumption | apply In.alloc | apply In.drewN | apply In.drew | (refine In.step ?_ (by assumption))))))).mono ?_
    rintro _ w1 ⟨rfl, hb1⟩
    rw [hB]
    go_wp2
    go_ret
    rw [HV.out]
    exact rowB_nil _ _ (by (repeat (first | exact In.refl _ | assumption | apply In.alloc | apply In.drewN | apply In.drew | (refine In.step ?_ (by assumption)))))
  obtain ⟨hs0, r1, r2, h12, hs, hWV⟩ := ok_at hB
  have HV : Hid (StartL n xs r = stL n xs r n) := Lib.hid (by simp [StartL, hB])
  have HS := Lib.hid hs
  have hat := fun i hi => (steps_at hs0).2 i hi
  have HAT := Lib.hid hat
  obtain ⟨t1, t2⟩ := sumTo_bd (stG xs) 1300 n hs
  have HR : Hid (stV n xs r n = r) := Lib.hid (by simp only [stV]; omega)
  clear hs hWV hat hs0
  go_enter Try.func21, Try.ntmps21
  go_wp2_with fail
  refine (icanStart A n c xs r _ hn (by exact hx.in_ (by (repeat (first | exact In.refl _ | assumption | apply In.alloc | apply In.drewN | apply In.drew | (refine In.step ?_ (by assumption))))))).mono ?_
  rintro _ w1 ⟨rfl, hb1⟩
  rw [hB]
  have i1 : In w.heap.size w w1 := In.step (by (repeat (first | exact In.refl _ | assumption | apply In.alloc | apply In.drewN | apply In.drew | (refine In.step ?_ (by assumption))))) hb1
  clear hb1 hB
  go_wp2_with (at_make; refine wpList_make_full _ rfl (.tmp 12) (.tmp 12) 27 rfl w1.heap.size 3 i0 (.int .i64 0) 1 Try.underlying27 hi0 hz0 hz1 .i64 .i64 (n : Int) (n : Int) n rfl rfl rfl rfl ?h2 ?h3 ?h4 ?_)
  case h2 => rw [hz2]; omega
  case h3 => unfold maxLen; omega
  case h4 => exact Nat.le_refl _
  intro w2 hown0 hgrow0
  have hb0 : Below w1.heap.size w1 w2 := (Below.refl _ _).grown hgrow0 (Nat.le_refl _) (fun j hj => by cases hj)
  clear hgrow0
  have hown1 : w2.ownsRow w1.heap.size 3 1 (.slice (some ⟨w1.heap.size, 0, none⟩) n n) n (iv (List.replicate n 0)) := by
    rw [toList_madeCells_one, iv_zeros] at hown0; exact hown0
  have i2 : In w.heap.size w w2 := In.step i1 hb0
  have hsz := i1.size
  clear hown0 hb0 i1
  go_wp2
  go_loopw [1, 6] (fun s i wr => ∃ (k : Nat) (l : List Int), k ≤ n ∧ i = .int .i64 ((k : Int) - 1) ∧ s = .int .i64 (stV n xs r k) ∧ l.length = n ∧ wr.ownsRow w1.heap.size 3 1 (.slice (some ⟨w1.heap.size, 0, none⟩) n n) n (iv l) ∧ (∀ t, k ≤ t → t < n → l.getD t 0 = stV n xs r t) ∧ In w.heap.size w wr) (fun _ i _ => (intOf i + 1).toNat)
  case atStart => exact ⟨n, _, Nat.le_refl _, rfl, v_int HR.out.symm, by simp, hown1, fun t h1 h2 => by omega, i2⟩
  case round =>
    clear hown1 i2
    obtain ⟨k, l, hk, rfl, rfl, hl, hown, hs, hi⟩ := hrel
    have HL := Lib.hid hl
    have HS2 := Lib.hid hs
    clear hl hs
    by_cases hlt : 0 < k
    · obtain ⟨j, rfl⟩ : ∃ j, k = j + 1 := ⟨k - 1, by omega⟩
      obtain ⟨b1, b2⟩ := sumTo_bd (stG xs) 1300 j fun i hi => HS.out i (by omega)
      obtain ⟨b3, b4⟩ := HS.out j (by omega)
      have HU := Lib.hid (sumTo_succ (stG xs) j)
      have HE : Hid (stV n xs r j = r - sumTo (stG xs) n + sumTo (stG xs) j) := Lib.hid rfl
      have HE2 : Hid (stV n xs r (j + 1) = r - sumTo (stG xs) n + sumTo (stG xs) (j + 1)) := Lib.hid rfl
      have hbd : -20000 ≤ stV n xs r (j + 1) ∧ stV n xs r (j + 1) ≤ 20000 := by rw [HE2.out, HU.out]; omega
      have HG : Hid (stG xs j = (xs.getD j ⟨0, 0⟩).f0 + (xs.getD j ⟨0, 0⟩).f1) := Lib.hid rfl
      have HD : Hid (stV n xs r (j + 1) - ((xs.getD j ⟨0, 0⟩).f0 + (xs.getD j ⟨0, 0⟩).f1) = stV n xs r j) := Lib.hid (by rw [HE2.out, HU.out, HG.out, HE.out]; omega)
      obtain ⟨d1, d2, d3, d4⟩ := HAT.out j (by omega)
      obtain ⟨a, rfl, ha0, ha1⟩ := (hx.in_ hi).2 j (by omega)
      have hc := hown.cellAt j (by omega)
      rw [iv_at l j (by have := HL.out; omega)] at hc
      have hf := hown.frozenAt j
      have hst := (hown.stored j (.int .i64 (stV n xs r j))).1
      rw [← iv_set] at hst
      generalize l.getD j 0 = y0 at hc
      clear hown
      generalize xs.getD j ⟨0, 0⟩ = x at ha0 ha1 HG d1 d2 d3 d4 HD
      obtain ⟨x0, x1⟩ := x
      simp only at ha0 ha1 d1 d2 d3 d4
      have hjc : ((j + 1 : Nat) : Int) - 1 = (j : Int) := by omega
      rw [hjc]
      clear hjc
      go_wp2
      go_quiet (fail)
      go_wp2
      have hd : stV n xs r (j + 1) - (x0 + x1) = stV n xs r j := HD.out
      rw [hd]
      go_roundw
      case rel => exact ⟨j, l.set j (stV n xs r j), by omega, rfl, rfl, by have := HL.out; simp; omega, hst, fun t h1 h2 => by
          by_cases e : t = j
          · subst e; have := HL.out; simp [show t < l.length from by omega]
          · have := HS2.out t (by omega) h2; rw [← this]; simp [show ¬ j = t from fun h => e h.symm], (hi.drewN _).set_ hsz _⟩
      case measure => simp [intOf]
    · obtain rfl : k = 0 := by omega
      have hm : ((0 : Nat) : Int) - 1 = -1 := rfl
      rw [hm]
      clear hm
      go_wp2
      go_ret
      have e : l = stL n xs r n := list_at (by rw [HL.out, stL_len]) fun t ht => by
        have hl := HL.out
        rw [stL_at _ _ _ _ _ (by omega)]; exact HS2.out t (Nat.zero_le _) (by omega)
      rw [HV.out]
      rw [e] at hown
      exact rowB_of (stL_len _ _ _ _) (own_base hown hsz) hi.below
end Go.Proofs.Ytgjbbidcpmglbaa
