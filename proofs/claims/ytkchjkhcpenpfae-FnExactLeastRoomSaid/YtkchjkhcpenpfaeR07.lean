/- Chapter 7: LeastRoom. -/
import Derived.Test.YtkchjkhcpenpfaeB07
import Derived.Test.YtkchjkhcpenpfaeFirst
namespace Go.Proofs.Ytkchjkhcpenpfae
open Go.ChangeShapes Go.WideShapes Go.ChangeAt Go.RowKit
set_option linter.unusedVariables false
set_option linter.unusedSimpArgs false

theorem loads_step {l m r : Int} (h : batB l m = true) (hr : inB r 1 500 = true) (hr' : inB (r + 1) 1 500 = true) : loadsV l m (r + 1) ≤ loadsV l m r := by
  have h1 := loads_in h hr
  have h2 := bat_in h
  have h3 := inB_tt hr
  simp only [batB, Bool.and_eq_true] at h
  have e : loadsV l m (r + 1) = (l + (r + 1) - 1) / (r + 1) := by simp [loadsV, h.1, h.2, hr']
  rw [e]
  generalize loadsV l m r = q at h1
  have h4 : (l + (r + 1) - 1) / (r + 1) < q + 1 := by
    apply Int.ediv_lt_of_lt_mul (by omega)
    have : (q + 1) * (r + 1) = q * r + q + r + 1 := by rw [Int.add_mul, Int.mul_add]; omega
    omega
  omega
theorem sumTo_le (g g' : Nat → Int) (k : Nat) (h : ∀ i, i < k → g i ≤ g' i) : sumTo g k ≤ sumTo g' k := by
  induction k with
  | zero => exact Int.le_refl _
  | succ k ih =>
    have h1 := ih fun i hi => h i (by omega)
    have h2 := h k (by omega)
    rw [sumTo_succ, sumTo_succ]; omega
theorem oven_step {n : Nat} {xs : List BatchR} {r l : Int} (hB : batsB n xs = true) (hl : inB l 0 60 = true) (hr : inB r 1 500 = true) (hr' : inB (r + 1) 1 500 = true) : ovenV n xs (r + 1) l ≤ ovenV n xs r l := by
  obtain ⟨_, hs⟩ := bats_at hB
  simp only [ovenV, hB, hl, hr, hr', Bool.and_self, if_true]
  refine sumTo_le _ _ _ fun i hi => ?_
  have h1 := loads_step (hs i hi) hr hr'
  have h2 := bat_in (hs i hi)
  have h3 := inB_tt hl
  exact Int.mul_le_mul_of_nonneg_right h1 (by omega)
theorem oven_anti {n : Nat} {xs : List BatchR} {l : Int} (hB : batsB n xs = true) (hl : inB l 0 60 = true) (r : Int) (h1 : 1 ≤ r) (d : Nat) (h2 : r + d ≤ 500) : ovenV n xs (r + d) l ≤ ovenV n xs r l := by
  induction d with
  | zero => simp
  | succ d ih =>
    have h3 := ih (by omega)
    have h4 := oven_step (n := n) (xs := xs) (r := r + d) (l := l) hB hl (inB_t (by omega)) (inB_t (by omega))
    have e : r + ((d + 1 : Nat) : Int) = r + d + 1 := by omega
    rw [e]; omega
theorem oven_ok {n : Nat} {xs : List BatchR} {r l : Int} (h : 0 ≤ ovenV n xs r l) : batsB n xs = true ∧ inB l 0 60 = true := by
  unfold ovenV at h
  split at h
  · rename_i e
    simp only [Bool.and_eq_true] at e
    exact ⟨e.1.1, e.2⟩
  · omega
def leastV (n : Nat) (xs : List BatchR) (l m : Int) : Int := if ovenV n xs 500 l < 0 ∨ inB m 0 100000 = false ∨ m < ovenV n xs 500 l then -1 else firstG (fun r => decide (ovenV n xs r l ≤ m)) 499 1
theorem least_eq {n : Nat} {xs : List BatchR} {l m : Int} (h0 : 0 ≤ ovenV n xs 500 l) (hm : inB m 0 100000 = true) (h1 : ovenV n xs 500 l ≤ m) (r : Int) (r1 : 1 ≤ r) (r2 : r ≤ 500) (hr : ovenV n xs r l ≤ m) (hn : ∀ x, 1 ≤ x → x < r → m < ovenV n xs x l) : leastV n xs l m = r := by
  rw [leastV, if_neg (by rw [hm]; simp; omega)]
  exact firstG_eq _ r (by simpa using hr) 499 1 r1 (by omega) fun x h2 h3 => by have := hn x h2 h3; simp; omega
set_option maxHeartbeats 1000000 in
theorem sLeastRoom (A : Option Addr) (n c : Nat) (xs : List BatchR) (l m : Int) (w : World) (hn : n ≤ maxLen) (hx : ReadsBatch w A n xs) : Calls Try.prog 25 #[.slice A n c, .int .i64 l, .int .i64 m] w (Val (i64 (leastV n xs l m)) w) := by
  by_cases h0 : ovenV n xs 500 l < 0
  · have HV : Hid (leastV n xs l m = -1) := Lib.hid (if_pos (.inl h0))
    go_enter Try.func25, Try.ntmps25
    go_wp2_with fail
    refine (sOvenTime A n c xs 500 l _ hn hx).mono ?_
    rintro _ w1 ⟨rfl, hb1⟩
    go_wp2_with (first | (go_at_call 38; refine (sIn _ _ _ _).mono ?_; rintro e w' ⟨rfl, rfl⟩) | (go_at_call 30; refine (iIn _ _ _ _).mono ?_; rintro e w' ⟨rfl, rfl⟩) | go_in | (go_end0; simp only []; go_at_K))
    go_ret
    exact Val.mk' (v_int HV.out.symm) (by (repeat (first | exact In.refl _ | assumption | apply In.alloc | apply In.drewN | apply In.drew | (refine In.step ?_ (by assumption)))))
  have h0' : 0 ≤ ovenV n xs 500 l := by omega
  cases hm : inB m 0 100000
  · have HV : Hid (leastV n xs l m = -1) := Lib.hid (if_pos (.inr (.inl hm)))
    go_enter Try.func25, Try.ntmps25
    go_wp2_with fail
    refine (sOvenTime A n c xs 500 l _ hn hx).mono ?_
    rintro _ w1 ⟨rfl, hb1⟩
    go_wp2_with (first | (go_at_call 38; refine (sIn _ _ _ _).mono ?_; rintro e w' ⟨rfl, rfl⟩) | (go_at_call 30; refine (iIn _ _ _ _).mono ?_; rintro e w' ⟨rfl, rfl⟩) | go_in | (go_end0; simp only []; go_at_K))
    go_ret
    exact Val.mk' (v_int HV.out.symm) (by (repeat (first | exact In.refl _ | assumption | apply In.alloc | apply In.drewN | apply In.drew | (refine In.step ?_ (by assumption)))))
  by_cases h1 : m < ovenV n xs 500 l
  · have HV : Hid (leastV n xs l m = -1) := Lib.hid (if_pos (.inr (.inr h1)))
    go_enter Try.func25, Try.ntmps25
    go_wp2_with fail
    refine (sOvenTime A n c xs 500 l _ hn hx).mono ?_
    rintro _ w1 ⟨rfl, hb1⟩
    have i1 : In w.heap.size w w1 := In.step (by (repeat (first | exact In.refl _ | assumption | apply In.alloc | apply In.drewN | apply In.drew | (refine In.step ?_ (by assumption))))) hb1
    clear hb1
    go_wp2_with (first | (go_at_call 38; refine (sIn _ _ _ _).mono ?_; rintro e w' ⟨rfl, rfl⟩) | (go_at_call 30; refine (iIn _ _ _ _).mono ?_; rintro e w' ⟨rfl, rfl⟩) | (go_at_call 24; refine (sOvenTime A n c xs 500 l _ hn (by exact hx.in_ (by (repeat (first | exact In.refl _ | assumption | apply In.alloc | apply In.drewN | apply In.drew | (refine In.step ?_ (by assumption))))))).mono ?_; rintro _ w2 ⟨rfl, hb2⟩) | go_in | (go_end0; simp only []; go_at_K))
    go_ret
    exact Val.mk' (v_int HV.out.symm) (by (repeat (first | exact In.refl _ | assumption | apply In.alloc | apply In.drewN | apply In.drew | (refine In.step ?_ (by assumption)))))
  have HE := Lib.hid (fun r r1 r2 hr hx => least_eq (n := n) (xs := xs) (l := l) (m := m) h0' hm (by omega) r r1 r2 hr hx)
  have HA := Lib.hid (fun r (h1 : 1 ≤ r) (d : Nat) h2 => oven_anti (n := n) (xs := xs) (l := l) (oven_ok h0').1 (oven_ok h0').2 r h1 d h2)
  have H5 : Hid (ovenV n xs 500 l ≤ m) := Lib.hid (by omega)
  go_enter Try.func25, Try.ntmps25
  go_wp2_with fail
  refine (sOvenTime A n c xs 500 l _ hn hx).mono ?_
  rintro _ w1 ⟨rfl, hb1⟩
  have i1 : In w.heap.size w w1 := In.step (by (repeat (first | exact In.refl _ | assumption | apply In.alloc | apply In.drewN | apply In.drew | (refine In.step ?_ (by assumption))))) hb1
  clear hb1
  go_wp2_with (first | (go_at_call 38; refine (sIn _ _ _ _).mono ?_; rintro e w' ⟨rfl, rfl⟩) | (go_at_call 30; refine (iIn _ _ _ _).mono ?_; rintro e w' ⟨rfl, rfl⟩) | (go_at_call 24; refine (sOvenTime A n c xs 500 l _ hn (by exact hx.in_ (by (repeat (first | exact In.refl _ | assumption | apply In.alloc | apply In.drewN | apply In.drew | (refine In.step ?_ (by assumption))))))).mono ?_; rintro _ w2 ⟨rfl, hb2⟩) | go_in | (go_end0; simp only []; go_at_K))
  have i2 : In w.heap.size w w2 := In.step (by (repeat (first | exact In.refl _ | assumption | apply In.alloc | apply In.drewN | apply In.drew | (refine In.step ?_ (by assumption))))) hb2
  clear hb2 i1 h0 h0' hm h1
  go_loopw [7, 8] (fun s t wr => ∃ i j : Int, 1 ≤ i ∧ i ≤ j ∧ j ≤ 500 ∧ s = .int .i64 i ∧ t = .int .i64 j ∧ In w.heap.size w wr ∧ ovenV n xs j l ≤ m ∧ ∀ x, 1 ≤ x → x < i → m < ovenV n xs x l) (fun s t _ => (intOf t - intOf s).toNat)
  case atStart => exact ⟨1, 500, by omega, by omega, by omega, rfl, rfl, i2, H5.out, fun x h1 h2 => by omega⟩
  case round =>
    clear i2
    obtain ⟨i, j, i1, i2, i3, rfl, rfl, hi, hj, hb⟩ := hrel
    have HJ := Lib.hid hj
    have HB := Lib.hid hb
    clear hj hb
    by_cases hlt : i < j
    · by_cases ht : ovenV n xs ((i + j) / 2) l ≤ m
      · have HT := Lib.hid ht
        go_wp2_with fail
        refine (sOvenTime A n c xs ((i + j) / 2) l _ hn (by exact hx.in_ (by (repeat (first | exact In.refl _ | assumption | apply In.alloc | apply In.drewN | apply In.drew | (refine In.step ?_ (by assumption))))))).mono ?_
        rintro _ w3 ⟨rfl, hb3⟩
        go_wp2
        go_roundw
        case rel => exact ⟨i, (i + j) / 2, by omega, by omega, by omega, rfl, rfl, by (repeat (first | exact In.refl _ | assumption | apply In.alloc | apply In.drewN | apply In.drew | (refine In.step ?_ (by assumption)))), HT.out, HB.out⟩
        case measure => simp [intOf]; omega
      · have ht' : m < ovenV n xs ((i + j) / 2) l := by omega
        have HT := Lib.hid ht'
        go_wp2_with fail
        refine (sOvenTime A n c xs ((i + j) / 2) l _ hn (by exact hx.in_ (by (repeat (first | exact In.refl _ | assumption | apply In.alloc | apply In.drewN | apply In.drew | (refine In.step ?_ (by assumption))))))).mono ?_
        rintro _ w3 ⟨rfl, hb3⟩
        go_wp2
        go_roundw
        case rel => exact ⟨(i + j) / 2 + 1, j, by omega, by omega, by omega, rfl, rfl, by (repeat (first | exact In.refl _ | assumption | apply In.alloc | apply In.drewN | apply In.drew | (refine In.step ?_ (by assumption)))), HJ.out, fun x h1 h2 => by
          have h3 := HA.out x h1 ((i + j) / 2 - x).toNat (by omega)
          have e : x + (((i + j) / 2 - x).toNat : Int) = (i + j) / 2 := by omega
          rw [e] at h3
          have := HT.out
          omega⟩
        case measure => simp [intOf]; omega
    · obtain rfl : i = j := by omega
      go_wp2
      go_ret
      exact Val.mk' (v_int (HE.out i i1 i3 HJ.out HB.out).symm) (by (repeat (first | exact In.refl _ | assumption | apply In.alloc | apply In.drewN | apply In.drew | (refine In.step ?_ (by assumption)))))
set_option maxHeartbeats 1000000 in
theorem iLeastRoom (A : Option Addr) (n c : Nat) (xs : List BatchR) (l m : Int) (w : World) (hn : n ≤ maxLen) (hx : ReadsBatch w A n xs) : Calls Try.prog 13 #[.slice A n c, .int .i64 l, .int .i64 m] w (Val (i64 (leastV n xs l m)) w) := by
  by_cases h0 : ovenV n xs 500 l < 0
  · have HV : Hid (leastV n xs l m = -1) := Lib.hid (if_pos (.inl h0))
    go_enter Try.func13, Try.ntmps13
    go_wp2_with fail
    refine (iOvenTime A n c xs 500 l _ hn hx).mono ?_
    rintro _ w1 ⟨rfl, hb1⟩
    go_wp2_with (first | (go_at_call 38; refine (sIn _ _ _ _).mono ?_; rintro e w' ⟨rfl, rfl⟩) | (go_at_call 30; refine (iIn _ _ _ _).mono ?_; rintro e w' ⟨rfl, rfl⟩) | go_in | (go_end0; simp only []; go_at_K))
    go_ret
    exact Val.mk' (v_int HV.out.symm) (by (repeat (first | exact In.refl _ | assumption | apply In.alloc | apply In.drewN | apply In.drew | (refine In.step ?_ (by assumption)))))
  have h0' : 0 ≤ ovenV n xs 500 l := by omega
  cases hm : inB m 0 100000
  · have HV : Hid (leastV n xs l m = -1) := Lib.hid (if_pos (.inr (.inl hm)))
    go_enter Try.func13, Try.ntmps13
    go_wp2_with fail
    refine (iOvenTime A n c xs 500 l _ hn hx).mono ?_
    rintro _ w1 ⟨rfl, hb1⟩
    go_wp2_with (first | (go_at_call 38; refine (sIn _ _ _ _).mono ?_; rintro e w' ⟨rfl, rfl⟩) | (go_at_call 30; refine (iIn _ _ _ _).mono ?_; rintro e w' ⟨rfl, rfl⟩) | go_in | (go_end0; simp only []; go_at_K))
    go_ret
    exact Val.mk' (v_int HV.out.symm) (by (repeat (first | exact In.refl _ | assumption | apply In.alloc | apply In.drewN | apply In.drew | (refine In.step ?_ (by assumption)))))
  have HE := Lib.hid (fun r r1 r2 hr hx h5 => least_eq (n := n) (xs := xs) (l := l) (m := m) h0' hm h5 r r1 r2 hr hx)
  have HA := Lib.hid (fun r (h1 : 1 ≤ r) (d : Nat) h2 => oven_anti (n := n) (xs := xs) (l := l) (oven_ok h0').1 (oven_ok h0').2 r h1 d h2)
  go_enter Try.func13, Try.ntmps13
  go_wp2_with fail
  refine (iOvenTime A n c xs 500 l _ hn hx).mono ?_
  rintro _ w1 ⟨rfl, hb1⟩
  have i1 : In w.heap.size w w1 := In.step (by (repeat (first | exact In.refl _ | assumption | apply In.alloc | apply In.drewN | apply In.drew | (refine In.step ?_ (by assumption))))) hb1
  clear hb1
  go_wp2_with (first | (go_at_call 38; refine (sIn _ _ _ _).mono ?_; rintro e w' ⟨rfl, rfl⟩) | (go_at_call 30; refine (iIn _ _ _ _).mono ?_; rintro e w' ⟨rfl, rfl⟩) | go_in | (go_end0; simp only []; go_at_K))
  clear h0 h0' hm
  go_loopw [7] (fun s wr => ∃ i : Int, 1 ≤ i ∧ i ≤ 501 ∧ s = .int .i64 i ∧ In w.heap.size w wr ∧ ∀ x, 1 ≤ x → x < i → m < ovenV n xs x l) (fun s _ => (501 - intOf s).toNat)
  case atStart => exact ⟨1, by omega, by omega, rfl, i1, fun x h1 h2 => by omega⟩
  case round =>
    clear i1
    obtain ⟨i, i1, i2, rfl, hi, hb⟩ := hrel
    have HB := Lib.hid hb
    clear hb
    by_cases hlt : i ≤ 500
    · by_cases ht : ovenV n xs i l ≤ m
      · have HT := Lib.hid ht
        go_wp2_with fail
        refine (iOvenTime A n c xs i l _ hn (by exact hx.in_ (by (repeat (first | exact In.refl _ | assumption | apply In.alloc | apply In.drewN | apply In.drew | (refine In.step ?_ (by assumption))))))).mono ?_
        rintro _ w3 ⟨rfl, hb3⟩
        go_wp2
        go_ret
        refine Val.mk' (v_int (HE.out i i1 hlt HT.out HB.out ?_).symm) (by (repeat (first | exact In.refl _ | assumption | apply In.alloc | apply In.drewN | apply In.drew | (refine In.step ?_ (by assumption)))))
        have h3 := HA.out i i1 (500 - i).toNat (by omega)
        have e : i + ((500 - i).toNat : Int) = 500 := by omega
        rw [e] at h3
        have := HT.out
        omega
      · have ht' : m < ovenV n xs i l := by omega
        have HT := Lib.hid ht'
        go_wp2_with fail
        refine (iOvenTime A n c xs i l _ hn (by exact hx.in_ (by (repeat (first | exact In.refl _ | assumption | apply In.alloc | apply In.drewN | apply In.drew | (refine In.step ?_ (by assumption))))))).mono ?_
        rintro _ w3 ⟨rfl, hb3⟩
        go_wp2
        go_roundw
        case rel => exact ⟨i + 1, by omega, by omega, rfl, by (repeat (first | exact In.refl _ | assumption | apply In.alloc | apply In.drewN | apply In.drew | (refine In.step ?_ (by assumption)))), fun x h1 h2 => by
          by_cases e : x = i
          · rw [e]; exact HT.out
          · exact HB.out x h1 (by omega)⟩
        case measure => simp [intOf]; omega
    · obtain rfl : i = 501 := by omega
      have HV : Hid (leastV n xs l m = -1) := Lib.hid (if_pos (.inr (.inr (HB.out 500 (by omega) (by omega)))))
      go_wp2
      go_ret
      exact Val.mk' (v_int HV.out.symm) (by (repeat (first | exact In.refl _ | assumption | apply In.alloc | apply In.drewN | apply In.drew | (refine In.step ?_ (by assumption)))))
end Go.Proofs.Ytkchjkhcpenpfae
