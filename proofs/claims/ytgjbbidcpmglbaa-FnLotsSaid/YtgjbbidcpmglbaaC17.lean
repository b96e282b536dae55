/- Chapter 17: UsesOk, UsedOf. -/
import Derived.Test.YtgjbbidcpmglbaaIn
import Derived.Test.YtgjbbidcpmglbaaSUse
import Derived.Test.YtgjbbidcpmglbaaSum
import Derived.Test.YtgjbbidcpmglbaaQuiet
import Derived.Deep.RegionHeld3
import Derived.BigQuiet
import Derived.Deep.QuietTactic
namespace Go.Proofs.Ytgjbbidcpmglbaa
open Go.ChangeShapes Go.WideShapes Go.ChangeAt Go.RowKit
set_option linter.unusedVariables false
set_option linter.unusedSimpArgs false

def useB (a b c : Int) : Bool := inB a 1 50 && inB b 1 50 && inB c 1 100000
abbrev z17 : UseR := ⟨0, 0, 0⟩
def uOk (xs : List UseR) (i : Nat) : Bool := useB (xs.getD i z17).f0 (xs.getD i z17).f1 (xs.getD i z17).f2
def usesB (n : Nat) (xs : List UseR) : Bool := decide (n ≤ 60) && allOk (uOk xs) n
theorem uses_f {n : Nat} {xs : List UseR} (k : Nat) (hk : k < n) (h : uOk xs k = false) : usesB n xs = false := by simp [usesB, allOk_f _ _ k hk h]
theorem uses_n {n : Nat} {xs : List UseR} (h : ∀ i, i < n → uOk xs i = true) : usesB n xs = decide (n ≤ 60) := by simp [usesB, allOk_t _ _ h]
theorem uses_at {n : Nat} {xs : List UseR} (h : usesB n xs = true) : n ≤ 60 ∧ ∀ i, i < n → useB (xs.getD i z17).f0 (xs.getD i z17).f1 (xs.getD i z17).f2 = true := by
  simp only [usesB, Bool.and_eq_true, decide_eq_true_eq] at h
  exact ⟨h.1, fun i hi => allOk_at _ _ h.2 i hi⟩
theorem use_in {a b c : Int} (h : useB a b c = true) : 1 ≤ a ∧ a ≤ 50 ∧ 1 ≤ b ∧ b ≤ 50 ∧ 1 ≤ c ∧ c ≤ 100000 := by
  simp only [useB, Bool.and_eq_true] at h
  have h1 := inB_tt h.1.1
  have h2 := inB_tt h.1.2
  have h3 := inB_tt h.2
  omega
theorem ibadU (a b c : Int) (w : World) : Calls Try.prog 88 #[.agg #[.int .i64 a, .int .i64 b, .int .i64 c]] w (Val (.bool (!useB a b c)) w) := by
  cases h1 : inB a 1 50 <;> cases h2 : inB b 1 50 <;> cases h3 : inB c 1 100000
  all_goals
    go_enter Try.func88, Try.ntmps88
    go_wp2_with (first | (go_at_call 66; refine (iIn _ _ _ _).mono ?_; rintro e w' ⟨rfl, rfl⟩) | go_in | (go_end0; simp only []; go_at_K))
    go_ret
    exact Val.mk' (v_bool (by simp [useB, h1, h2, h3])) (by (repeat (first | exact In.refl _ | assumption | apply In.alloc | apply In.drewN | apply In.drew | (refine In.step ?_ (by assumption)))))
def BadU (xs : List UseR) (n : Nat) (w : World) (e : Ending) (w' : World) : Prop := ∃ r : Int, e = .returned (.int .i64 r) ∧ -1 ≤ r ∧ r ≤ 20000000 ∧ (r < 0 ↔ allOk (uOk xs) n = true) ∧ Below w.heap.size w w'
set_option maxHeartbeats 1000000 in
theorem iIndexU (A : Option Addr) (n c : Nat) (xs : List UseR) (w : World) (hn : n ≤ 10000000) (hx : ReadsUse w A n xs) :
    Calls Try.prog 116 #[.slice A n c, .func (Fn.func 88) #[] #[]] w (BadU xs n w) := by
  go_enter Try.func116, Try.ntmps116
  go_wp2
  go_loopw [8] (fun i wr => ∃ k : Nat, k ≤ n ∧ i = .int .i64 k ∧ (∀ i, i < k → uOk xs i = true) ∧ In w.heap.size w wr) (fun i _ => n - (intOf i).toNat)
  case atStart => exact ⟨0, Nat.zero_le _, rfl, fun i hi => absurd hi (Nat.not_lt_zero _), by (repeat (first | exact In.refl _ | assumption | apply In.alloc | apply In.drewN | apply In.drew | (refine In.step ?_ (by assumption))))⟩
  case round =>
    obtain ⟨k, hk, rfl, ho, hi⟩ := hrel
    have HO := Lib.hid ho
    clear ho
    by_cases hlt : k < n
    · obtain ⟨a, rfl, ha0, ha1, ha2⟩ := (hx.in_ hi).2 k hlt
      have HK : Hid (uOk xs k = useB (xs.getD k z17).f0 (xs.getD k z17).f1 (xs.getD k z17).f2) := Lib.hid rfl
      generalize xs.getD k z17 = x at ha0 ha1 ha2 HK
      obtain ⟨x0, x1, x2⟩ := x
      simp only at ha0 ha1 ha2 HK
      cases h1 : useB x0 x1 x2
      · have HF : Hid (allOk (uOk xs) n = false) := Lib.hid (allOk_f _ _ k hlt (by rw [HK.out]; exact h1))
        go_wp2_with fail
        refine (ibadU x0 x1 x2 _).mono ?_
        rintro _ w1 ⟨rfl, hb1⟩
        rw [h1]
        go_wp2
        go_ret
        exact ⟨k, rfl, by omega, by omega, by rw [HF.out]; simp, In.below (by (repeat (first | exact In.refl _ | assumption | apply In.alloc | apply In.drewN | apply In.drew | (refine In.step ?_ (by assumption)))))⟩
      have HT : Hid (uOk xs k = true) := Lib.hid (by rw [HK.out]; exact h1)
      go_wp2_with fail
      refine (ibadU x0 x1 x2 _).mono ?_
      rintro _ w1 ⟨rfl, hb1⟩
      rw [h1]
      go_wp2
      go_roundw
      case rel => exact ⟨k + 1, by omega, by go_num, fun i hi => by
            by_cases e : i = k
            · subst e; exact HT.out
            · exact HO.out i (by omega), by (repeat (first | exact In.refl _ | assumption | apply In.alloc | apply In.drewN | apply In.drew | (refine In.step ?_ (by assumption))))⟩
      case measure => simp [intOf]; omega
    · obtain rfl : k = n := by omega
      go_wp2
      go_ret
      exact ⟨-1, rfl, by omega, by omega, by rw [allOk_t _ _ HO.out]; simp, In.below (by (repeat (first | exact In.refl _ | assumption | apply In.alloc | apply In.drewN | apply In.drew | (refine In.step ?_ (by assumption)))))⟩
theorem iUsesOk (A : Option Addr) (n c : Nat) (xs : List UseR) (w : World) (hn : n ≤ maxLen) (hx : ReadsUse w A n xs) : Calls Try.prog 46 #[.slice A n c] w (Val (.bool (usesB n xs)) w) := by
  unfold maxLen at hn
  by_cases h10 : n ≤ 60
  · go_enter Try.func46, Try.ntmps46
    go_wp2_with (first | (go_at_call 116; refine (iIndexU A n c xs _ (by omega) hx).mono ?_; rintro _ w1 ⟨r, rfl, h1, h2, h3, hb1⟩) | go_in)
    all_goals
      go_ret
      refine Val.mk' (v_bool ?_) (by (repeat (first | exact In.refl _ | assumption | apply In.alloc | apply In.drewN | apply In.drew | (refine In.step ?_ (by assumption)))))
      cases e : allOk (uOk xs) n <;> simp_all [usesB] <;> omega
  · have HF : Hid (usesB n xs = false) := Lib.hid (by simp [usesB, h10])
    have h10' : 60 < n := by omega
    go_enter Try.func46, Try.ntmps46
    go_wp2
    go_ret
    exact Val.mk' (v_bool HF.out.symm) (by (repeat (first | exact In.refl _ | assumption | apply In.alloc | apply In.drewN | apply In.drew | (refine In.step ?_ (by assumption)))))
/-! UsedOf -/
def usG (xs : List UseR) (l : Int) (i : Nat) : Int := if (xs.getD i z17).f0 = l then (xs.getD i z17).f2 else 0
def usedV (n : Nat) (xs : List UseR) (l : Int) : Int := if usesB n xs then sumTo (usG xs l) n else -1
theorem usG_in (xs : List UseR) (l : Int) (i : Nat) (h : useB (xs.getD i z17).f0 (xs.getD i z17).f1 (xs.getD i z17).f2 = true) : 0 ≤ usG xs l i ∧ usG xs l i ≤ 100000 := by
  have := use_in h
  unfold usG; split <;> omega
set_option maxHeartbeats 2000000 in
theorem iUsedOf (A : Option Addr) (n c : Nat) (xs : List UseR) (l : Int) (w : World) (hn : n ≤ maxLen) (hx : ReadsUse w A n xs) : Calls Try.prog 43 #[.slice A n c, .int .i64 l] w (Val (i64 (usedV n xs l)) w) := by
  cases hB : usesB n xs
  · have HV : Hid (usedV n xs l = -1) := Lib.hid (by simp [usedV, hB])
    go_enter Try.func43, Try.ntmps43
    go_wp2_with fail
    refine (iUsesOk A n c xs _ hn hx).mono ?_
    rintro _ w1 ⟨rfl, hb1⟩
    rw [hB]
    go_wp2
    go_ret
    exact Val.mk' (v_int HV.out.symm) (by (repeat (first | exact In.refl _ | assumption | apply In.alloc | apply In.drewN | apply In.drew | (refine In.step ?_ (by assumption)))))
  have HV : Hid (usedV n xs l = sumTo (usG xs l) n) := Lib.hid (by simp [usedV, hB])
  obtain ⟨h12, hs⟩ := uses_at hB
  have HS := Lib.hid hs
  clear hs
  go_enter Try.func43, Try.ntmps43
  go_wp2_with fail
  refine (iUsesOk A n c xs _ hn hx).mono ?_
  rintro _ w1 ⟨rfl, hb1⟩
  have i1 : In w.heap.size w w1 := In.step (by (repeat (first | exact In.refl _ | assumption | apply In.alloc | apply In.drewN | apply In.drew | (refine In.step ?_ (by assumption))))) hb1
  rw [hB]
  clear hb1 hB
  go_wp2
  go_loopw [5, 13] (fun s i wr => ∃ k : Nat, k ≤ n ∧ i = .int .i64 k ∧ s = .int .i64 (sumTo (usG xs l) k) ∧ In w.heap.size w wr) (fun _ i _ => n - (intOf i).toNat)
  case atStart => exact ⟨0, Nat.zero_le _, rfl, rfl, by (repeat (first | exact In.refl _ | assumption | apply In.alloc | apply In.drewN | apply In.drew | (refine In.step ?_ (by assumption))))⟩
  case round =>
    clear i1
    obtain ⟨k, hk, rfl, rfl, hi⟩ := hrel
    by_cases hlt : k < n
    · obtain ⟨a, rfl, ha0, ha1, ha2⟩ := (hx.in_ hi).2 k hlt
      have HU := Lib.hid (sumTo_succ (usG xs l) k)
      obtain ⟨d1, d2⟩ := sumTo_bd (usG xs l) 100000 k fun i hi => usG_in xs l i (HS.out i (by omega))
      have HB := use_in (HS.out k hlt)
      have HG : Hid (usG xs l k = if (xs.getD k z17).f0 = l then (xs.getD k z17).f2 else 0) := Lib.hid rfl
      generalize xs.getD k z17 = x at ha0 ha1 ha2 HG HB
      obtain ⟨x0, x1, x2⟩ := x
      simp only at ha0 ha1 ha2 HG HB
      have W2 : IntKind.i64.wrap (sumTo (usG xs l) k + x2) = sumTo (usG xs l) k + x2 := IntWalk.i64_in _ (by omega)
      by_cases he : x0 = l
      · have HG2 : Hid (usG xs l k = x2) := Lib.hid (by rw [HG.out, if_pos he])
        clear HG
        go_wp2
        go_roundw
        case rel => exact ⟨k + 1, by omega, by go_num, v_int (by rw [HU.out, HG2.out]; (try simp only [W2]); (try omega)), by (repeat (first | exact In.refl _ | assumption | apply In.alloc | apply In.drewN | apply In.drew | (refine In.step ?_ (by assumption))))⟩
        case measure => simp [intOf]; omega
      · have HG2 : Hid (usG xs l k = 0) := Lib.hid (by rw [HG.out, if_neg he])
        clear HG
        go_wp2
        go_roundw
        case rel => exact ⟨k + 1, by omega, by go_num, v_int (by rw [HU.out, HG2.out]; (try omega)), by (repeat (first | exact In.refl _ | assumption | apply In.alloc | apply In.drewN | apply In.drew | (refine In.step ?_ (by assumption))))⟩
        case measure => simp [intOf]; omega
    · obtain rfl : k = n := by omega
      go_wp2
      go_ret
      exact Val.mk' (v_int HV.out.symm) (by (repeat (first | exact In.refl _ | assumption | apply In.alloc | apply In.drewN | apply In.drew | (refine In.step ?_ (by assumption)))))
end Go.Proofs.Ytgjbbidcpmglbaa
