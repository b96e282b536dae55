/- Chapter 30: CanTell, FlourOf: the walks. -/
import Derived.Test.YtoljdgmfpebhdaaDoorD30
import Derived.Lib.SliceRun
namespace Go.Proofs.YtoljdgmfpebhdaaDoor
open Go.ChangeShapes Go.WideShapes Go.ChangeAt Go.RowKit
set_option linter.unusedVariables false
set_option linter.unusedSimpArgs false
set_option maxHeartbeats 2000000

theorem cellsR4 {w : World} {base g : Nat} {x p q r : Int} (h : w.ownsRow base 3 1 (.slice (some ⟨g, 0, none⟩) 4 4) 4 (iv [x, p, q, r])) :
    w.cell? ⟨g, 0, none⟩ = some (.int .i64 x) ∧ w.cell? ⟨g, 1, none⟩ = some (.int .i64 p) ∧ w.cell? ⟨g, 2, none⟩ = some (.int .i64 q) ∧ w.cell? ⟨g, 3, none⟩ = some (.int .i64 r) := by
  have hr := reads_own_i h
  have f : ∀ k, k < 4 → w.cell? ⟨g, k, none⟩ = some (.int .i64 ([x, p, q, r].getD k 0)) := fun k hk => by
    obtain ⟨ad, ha, hc⟩ := hr.2 k hk
    injection ha with ha
    subst ha
    rw [Addr.add_lit, Nat.zero_add] at hc
    exact hc
  exact ⟨f 0 (by omega), f 1 (by omega), f 2 (by omega), f 3 (by omega)⟩
theorem zero4 (x p q r : Int) : decide (0 ≤ idxOf [x, p, q, r] 0 4) = (x == 0 || p == 0 || q == 0 || r == 0) := by
  have h : (0 ≤ idxOf [x, p, q, r] 0 4) ↔ ¬ (idxOf [x, p, q, r] 0 4 < 0) := by omega
  rw [Bool.eq_iff_iff]
  simp only [decide_eq_true_eq, Bool.or_eq_true, beq_iff_eq]
  rw [h, idxOf_neg]
  constructor
  · intro h
    by_cases h0 : x = 0
    · simp [h0]
    by_cases h1 : p = 0
    · simp [h1]
    by_cases h2 : q = 0
    · simp [h2]
    by_cases h3 : r = 0
    · simp [h3]
    · exfalso; apply h
      intro i hi
      have : i = 0 ∨ i = 1 ∨ i = 2 ∨ i = 3 := by omega
      rcases this with rfl | rfl | rfl | rfl <;> simpa
  · intro h hall
    have e0 := hall 0 (by omega)
    have e1 := hall 1 (by omega)
    have e2 := hall 2 (by omega)
    have e3 := hall 3 (by omega)
    simp at e0 e1 e2 e3
    rcases h with ((h | h) | h) | h <;> contradiction
theorem part_zero {p : Int} (hp : 0 ≤ p ∧ p ≤ 2000) : partV 0 p = 0 := by rw [part_nn (by omega) hp]; simp
theorem iCanTell (a b c f : Int) (w : World) : Calls Tryd.prog 27 #[.agg #[.int .i64 a, .int .i64 b, .int .i64 c], .int .i64 f] w (Val (.bool (tellB a b c f)) w) := by
  have hnil := fun (w : World) (a : Option Addr) (n c n' c' : Nat) => Lib.run_eql_slice_nil (P := Tryd.prog) w 38 3 a n c n' c' Tryd.underlying38
  by_cases hd : dOk a b c = true ∧ 0 ≤ f ∧ f ≤ 1000000
  case neg =>
    have HV : Hid (tellB a b c f = false) := Lib.hid (by simp only [tellB, hd]; rfl)
    go_enter Tryd.func27, Tryd.ntmps27
    go_wp2_with fail
    refine (iAmounts_no a b c f hd _).mono ?_
    rintro _ w1 ⟨rfl, hb1⟩
    go_wp2
    go_ret
    exact Val.mk' (v_bool HV.out.symm) (by (repeat (first | exact In.refl _ | assumption | apply In.alloc | apply In.drewN | apply In.drew | (refine In.step ?_ (by assumption)))))
  have HA := Lib.hid (iAmounts_yes a b c f hd.1 hd.2.1 hd.2.2)
  have hin := d_in hd.1
  have HV : Hid (tellB a b c f = ((partV f a != 0) && (partV f b != 0) && (partV f c != 0) && (partV f a != partV f b) && (partV f a != partV f c) && (partV f b != partV f c))) := Lib.hid (by simp [tellB, hd])
  have HZ : Hid (f = 0 → partV f a = 0) := Lib.hid (fun h => by subst h; exact part_zero (by omega))
  clear hin hd
  generalize partV f a = p at *
  generalize partV f b = q at *
  generalize partV f c = r at *
  cases h0 : (p != q : Bool)
  case false =>
    have HV2 : Hid (tellB a b c f = false) := Lib.hid (by rw [HV.out]; simp [h0])
    go_enter Tryd.func27, Tryd.ntmps27
    go_wp2_with fail
    refine (HA.out _).mono ?_
    rintro _ w1 ⟨g, rfl, ho, hb1⟩
    have i1 : In w.heap.size w w1 := In.step (by (repeat (first | exact In.refl _ | assumption | apply In.alloc | apply In.drewN | apply In.drew | (refine In.step ?_ (by assumption))))) hb1
    obtain ⟨c0, c1, c2, c3⟩ := cellsR4 ho
    have hR := reads_own_i ho
    have HR := Lib.hid hR
    clear ho hb1 hR HA
    simp only [List.length_cons, List.length_nil, Nat.zero_add, Nat.reduceAdd]
    go_wp2
    go_quiet (fail)
    go_wp2
    go_ret
    exact Val.mk' (v_bool HV2.out.symm) (by (repeat (first | exact In.refl _ | assumption | apply In.alloc | apply In.drewN | apply In.drew | (refine In.step ?_ (by assumption)))))
  cases h1 : (p != r : Bool)
  case false =>
    have HV2 : Hid (tellB a b c f = false) := Lib.hid (by rw [HV.out]; simp [h0, h1])
    go_enter Tryd.func27, Tryd.ntmps27
    go_wp2_with fail
    refine (HA.out _).mono ?_
    rintro _ w1 ⟨g, rfl, ho, hb1⟩
    have i1 : In w.heap.size w w1 := In.step (by (repeat (first | exact In.refl _ | assumption | apply In.alloc | apply In.drewN | apply In.drew | (refine In.step ?_ (by assumption))))) hb1
    obtain ⟨c0, c1, c2, c3⟩ := cellsR4 ho
    have hR := reads_own_i ho
    have HR := Lib.hid hR
    clear ho hb1 hR HA
    simp only [List.length_cons, List.length_nil, Nat.zero_add, Nat.reduceAdd]
    go_wp2
    go_quiet (fail)
    go_wp2
    go_ret
    exact Val.mk' (v_bool HV2.out.symm) (by (repeat (first | exact In.refl _ | assumption | apply In.alloc | apply In.drewN | apply In.drew | (refine In.step ?_ (by assumption)))))
  cases h2 : (q != r : Bool)
  case false =>
    have HV2 : Hid (tellB a b c f = false) := Lib.hid (by rw [HV.out]; simp [h0, h1, h2])
    go_enter Tryd.func27, Tryd.ntmps27
    go_wp2_with fail
    refine (HA.out _).mono ?_
    rintro _ w1 ⟨g, rfl, ho, hb1⟩
    have i1 : In w.heap.size w w1 := In.step (by (repeat (first | exact In.refl _ | assumption | apply In.alloc | apply In.drewN | apply In.drew | (refine In.step ?_ (by assumption))))) hb1
    obtain ⟨c0, c1, c2, c3⟩ := cellsR4 ho
    have hR := reads_own_i ho
    have HR := Lib.hid hR
    clear ho hb1 hR HA
    simp only [List.length_cons, List.length_nil, Nat.zero_add, Nat.reduceAdd]
    go_wp2
    go_quiet (fail)
    go_wp2
    go_ret
    exact Val.mk' (v_bool HV2.out.symm) (by (repeat (first | exact In.refl _ | assumption | apply In.alloc | apply In.drewN | apply In.drew | (refine In.step ?_ (by assumption)))))
  have HV2 : Hid (tellB a b c f = !(decide (0 ≤ idxOf [f, p, q, r] 0 4))) := Lib.hid (by
    rw [HV.out, zero4]
    by_cases hf : f = 0
    · have h0 := HZ.out hf
      simp [hf, h0]
    · have g0 : p ≠ q := by simpa using h0
      have g1 : p ≠ r := by simpa using h1
      have g2 : q ≠ r := by simpa using h2
      simp [hf, g0, g1, g2, Bool.beq_eq_decide_eq, bne, Bool.and_assoc])
  go_enter Tryd.func27, Tryd.ntmps27
  go_wp2_with fail
  refine (HA.out _).mono ?_
  rintro _ w1 ⟨g, rfl, ho, hb1⟩
  have i1 : In w.heap.size w w1 := In.step (by (repeat (first | exact In.refl _ | assumption | apply In.alloc | apply In.drewN | apply In.drew | (refine In.step ?_ (by assumption))))) hb1
  obtain ⟨c0, c1, c2, c3⟩ := cellsR4 ho
  have hR := reads_own_i ho
  have HR := Lib.hid hR
  clear ho hb1 hR HA
  simp only [List.length_cons, List.length_nil, Nat.zero_add, Nat.reduceAdd]
  go_wp2
  go_quiet (fail)
  go_wp2_with fail
  refine (iContains (some ⟨g, 0, none⟩) 4 4 [f, p, q, r] 0 _ (by unfold maxLen; omega) (by exact HR.out.drewN _)).mono ?_
  rintro _ _ ⟨rfl, rfl⟩
  go_wp2
  go_ret
  exact Val.mk' (v_bool HV2.out.symm) (by (repeat (first | exact In.refl _ | assumption | apply In.alloc | apply In.drewN | apply In.drew | (refine In.step ?_ (by assumption)))))
end Go.Proofs.YtoljdgmfpebhdaaDoor
