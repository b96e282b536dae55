/- Chapter 2: DoughWeight. -/
import Derived.Test.YtoljdgmfpebhdaaDoorA02
import Derived.Test.YtoljdgmfpebhdaaDoorSum
import Derived.WalkSpells
import Derived.Lib.SliceRun
namespace Go.Proofs.YtoljdgmfpebhdaaDoor
open Go.ChangeShapes Go.WideShapes Go.ChangeAt Go.RowKit
set_option linter.unusedVariables false
set_option linter.unusedSimpArgs false

theorem partV_in {f p : Int} (hf : 0 ≤ f ∧ f ≤ 1000000) (hp : 0 ≤ p ∧ p ≤ 2000) : 0 ≤ partV f p ∧ partV f p ≤ 2001000 := by
  unfold partV
  rw [if_pos (by omega)]
  have h := mul_in hf.1 hf.2 hp.1 hp.2
  rw [Int.tdiv_eq_ediv_of_nonneg (by omega)]
  omega
def amtV (a b c f : Int) : List Int := [f, partV f a, partV f b, partV f c]
theorem amt_in {a b c f : Int} (hd : dOk a b c = true) (hf : 0 ≤ f ∧ f ≤ 1000000) (i : Nat) (hi : i < 4) : 0 ≤ (amtV a b c f).getD i 0 ∧ (amtV a b c f).getD i 0 ≤ 2001000 := by
  simp [dOk] at hd
  have h1 := partV_in (p := a) hf (by omega)
  have h2 := partV_in (p := b) hf (by omega)
  have h3 := partV_in (p := c) hf (by omega)
  rcases (by omega : i = 0 ∨ i = 1 ∨ i = 2 ∨ i = 3) with rfl | rfl | rfl | rfl <;> simp [amtV] <;> omega
def weightV (a b c f : Int) : Int := if dOk a b c = true ∧ 0 ≤ f ∧ f ≤ 1000000 then sumTo (fun i => (amtV a b c f).getD i 0) 4 else -1

set_option maxHeartbeats 1000000 in
theorem sSum (A : Option Addr) (n c : Nat) (xs : List Int) (w : World) (hn : (n : Int) ≤ 1000) (hx : ReadsI w A n xs) (hb : ∀ i, i < n → 0 ≤ xs.getD i 0 ∧ xs.getD i 0 ≤ 1000000000) :
    Calls Tryd.prog 46 #[.slice A n c] w (Val (.int .i64 (sumTo (fun i => xs.getD i 0) n)) w) := by
  go_enter Tryd.func46, Tryd.ntmps46
  go_wp2
  go_loopw [3, 4] (fun s i wr => ∃ (k q : Nat), k ≤ n ∧ i = .int .i64 k ∧ s = .int .i64 (sumTo (fun i => xs.getD i 0) k) ∧ wr = w.drewN q) (fun _ i _ => n - (intOf i).toNat)
  case atStart => exact ⟨0, 0, Nat.zero_le _, rfl, rfl, rfl⟩
  case round =>
    obtain ⟨k, q, hk, rfl, rfl, rfl⟩ := hrel
    by_cases hlt : k < n
    · obtain ⟨a, rfl, ha⟩ := hx.2 k hlt
      have h1 := sumTo_bd (fun i => xs.getD i 0) 1000000000 k fun i hi => hb i (by omega)
      have h2 := hb k hlt
      have HS := Lib.hid (sumTo_succ (fun i => xs.getD i 0) k)
      generalize xs.getD k 0 = x at ha h2 HS
      generalize sumTo (fun i => xs.getD i 0) k = s at h1 HS ⊢
      go_wp2
      go_roundw
      case rel => exact ⟨k + 1, _, by omega, by go_num, by rw [HS.out], rfl⟩
      case measure => simp [intOf]; omega
    · obtain rfl : k = n := by omega
      go_wp2
      go_ret
      exact ⟨ret_int rfl, below_drewN (Below.refl _ _) _⟩
theorem reads_own {w : World} {base g n : Nat} {xs : List Int} (h : w.ownsRow base 3 1 (.slice (some ⟨g, 0, none⟩) n n) n (iv xs)) : ReadsI w (some ⟨g, 0, none⟩) n xs := reads_own_i h
theorem weight_yes {a b c f : Int} (hd : dOk a b c = true) (hf : 0 ≤ f) (hf' : f ≤ 1000000) : weightV a b c f = sumTo (fun i => (amtV a b c f).getD i 0) 4 := if_pos ⟨hd, hf, hf'⟩
theorem weight_no {a b c f : Int} (h : ¬ (dOk a b c = true ∧ 0 ≤ f ∧ f ≤ 1000000)) : weightV a b c f = -1 := if_neg h
theorem sDoughWeight (a b c f : Int) (w : World) : Calls Tryd.prog 26 #[.agg #[.int .i64 a, .int .i64 b, .int .i64 c], .int .i64 f] w (Val (.int .i64 (weightV a b c f)) w) := by
  by_cases h : dOk a b c = true ∧ 0 ≤ f ∧ f ≤ 1000000
  · rw [weight_yes h.1 h.2.1 h.2.2]
    have hb := amt_in h.1 h.2
    have hA := sAmounts_yes a b c f h.1 h.2.1 h.2.2
    have HA := Lib.hid hA
    have HB := Lib.hid hb
    clear hA hb h
    go_enter Tryd.func26, Tryd.ntmps26
    go_wp2_with fail
    refine (HA.out _).mono ?_
    rintro _ w1 ⟨g, rfl, ho, hb1⟩
    have i1 : In w.heap.size w w1 := In.step (by (repeat (first | exact In.refl _ | assumption | apply In.alloc | apply In.drewN | apply In.drew | (refine In.step ?_ (by assumption))))) hb1
    have hr := reads_own ho
    have HR := Lib.hid hr
    clear hb1 ho hr
    go_wp2_with fail
    refine (sSum _ _ _ _ _ (by simp) HR.out (fun i hi => by have := HB.out i hi; exact ⟨this.1, Int.le_trans this.2 (by decide)⟩)).mono ?_
    rintro _ w2 ⟨rfl, hb2⟩
    go_wp2
    go_ret
    exact Val.mk' rfl (by (repeat (first | exact In.refl _ | assumption | apply In.alloc | apply In.drewN | apply In.drew | (refine In.step ?_ (by assumption)))))
  · rw [weight_no h]
    go_enter Tryd.func26, Tryd.ntmps26
    go_wp2_with fail
    refine (sAmounts_no a b c f h _).mono ?_
    rintro _ w1 ⟨g, rfl, ho, hb1⟩
    go_wp2
    go_ret
    exact Val.mk' rfl (by (repeat (first | exact In.refl _ | assumption | apply In.alloc | apply In.drewN | apply In.drew | (refine In.step ?_ (by assumption)))))
theorem iDoughWeight (a b c f : Int) (w : World) : Calls Tryd.prog 41 #[.agg #[.int .i64 a, .int .i64 b, .int .i64 c], .int .i64 f] w (Val (.int .i64 (weightV a b c f)) w) := by
  have hnil := fun (w : World) (a : Option Addr) (n c n' c' : Nat) => Lib.run_eql_slice_nil (P := Tryd.prog) w 38 3 a n c n' c' Tryd.underlying38
  by_cases h : dOk a b c = true ∧ 0 ≤ f ∧ f ≤ 1000000
  · rw [weight_yes h.1 h.2.1 h.2.2]
    have hb := amt_in h.1 h.2
    have hA := iAmounts_yes a b c f h.1 h.2.1 h.2.2
    have HA := Lib.hid hA
    have HB := Lib.hid hb
    clear hA hb h
    go_enter Tryd.func41, Tryd.ntmps41
    go_wp2_with fail
    refine (HA.out _).mono ?_
    rintro _ w1 ⟨g, rfl, ho, hb1⟩
    have i1 : In w.heap.size w w1 := In.step (by (repeat (first | exact In.refl _ | assumption | apply In.alloc | apply In.drewN | apply In.drew | (refine In.step ?_ (by assumption))))) hb1
    have hr := reads_own ho
    have HR := Lib.hid hr
    clear hb1 ho hr
    go_wp2
    go_loopw [6, 16] (fun s i wr => ∃ (k q : Nat), k ≤ 4 ∧ i = .int .i64 k ∧ s = .int .i64 (sumTo (fun i => (amtV a b c f).getD i 0) k) ∧ wr = w1.drewN q) (fun _ i _ => 4 - (intOf i).toNat)
    case atStart => exact ⟨0, 0, Nat.zero_le _, rfl, rfl, rfl⟩
    case round =>
      obtain ⟨k, q, hk, rfl, rfl, rfl⟩ := hrel
      by_cases hlt : k < 4
      · obtain ⟨ad, had, ha⟩ := HR.out.2 k hlt
        injection had with had
        subst had
        have h1 := sumTo_bd (fun i => (amtV a b c f).getD i 0) 2001000 k fun i hi => HB.out i (by omega)
        have h2 := HB.out k hlt
        have HS := Lib.hid (sumTo_succ (fun i => (amtV a b c f).getD i 0) k)
        rw [Addr.add_lit, Nat.zero_add] at ha
        rw [show [f, partV f a, partV f b, partV f c] = amtV a b c f from rfl] at ha
        generalize (amtV a b c f).getD k 0 = x at ha h2 HS
        generalize sumTo (fun i => (amtV a b c f).getD i 0) k = s at h1 HS ⊢
        go_wp2
        go_roundw
        case rel => exact ⟨k + 1, _, by omega, by go_num, by rw [HS.out], rfl⟩
        case measure => simp [intOf]; omega
      · obtain rfl : k = 4 := by omega
        go_wp2
        go_ret
        exact Val.mk' rfl (by (repeat (first | exact In.refl _ | assumption | apply In.alloc | apply In.drewN | apply In.drew | (refine In.step ?_ (by assumption)))))
  · rw [weight_no h]
    go_enter Tryd.func41, Tryd.ntmps41
    (go_wp2_with fail; refine (iAmounts_no a b c f h _).mono ?_; rintro _ _ ⟨rfl, _⟩)
    go_wp2
    go_ret
    exact Val.mk' rfl (by (repeat (first | exact In.refl _ | assumption | apply In.alloc | apply In.drewN | apply In.drew | (refine In.step ?_ (by assumption)))))
end Go.Proofs.YtoljdgmfpebhdaaDoor
