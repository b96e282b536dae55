/- Chapter 33: WinnerByPoints, contracts. -/
import Derived.Test.YtbbinndegcnedacG33
namespace Go.Proofs.Ytbbinndegcnedac
open Go.ChangeShapes Go.WideShapes Go.ChangeAt Go.RowKit
set_option linter.unusedVariables false
set_option linter.unusedSimpArgs false
set_option maxHeartbeats 2000000

def winP (m : Nat) (vs : List IntSR) (n : Int) : Int := gidx (PointsOfL m vs n) (PointsOfL m vs n).length
theorem iWinnerByPoints (A : Option Addr) (m c : Nat) (vs : List IntSR) (n : Int) (w : World) (hm : m ≤ maxLen) (hx : ReadsIntS w A m vs) : Calls Try.prog 23 #[.slice A m c, .int .i64 n] w (Val (i64 (winP m vs n)) w) := by
  have hz := PointsOfL_len m vs n
  have HV : Hid (winP m vs n = gidx (PointsOfL m vs n) (PointsOfL m vs n).length) := Lib.hid rfl
  have HC := Lib.hid (fun W h => iPointsOf A m c vs n W hm h)
  generalize winP m vs n = z at *
  generalize PointsOfL m vs n = zs at *
  go_enter Try.func23, Try.ntmps23
  go_wp2_with fail
  refine (HC.out _ (hx.in_ (by (repeat (first | exact In.refl _ | assumption | apply In.alloc | apply In.drewN | apply In.drew | (refine In.step ?_ (by assumption))))))).mono ?_
  rintro _ w1 ⟨A2, c2, rfl, ho, hb⟩
  have hr := reads_own_i ho
  have i1 : In w.heap.size w w1 := In.step (by (repeat (first | exact In.refl _ | assumption | apply In.alloc | apply In.drewN | apply In.drew | (refine In.step ?_ (by assumption))))) hb
  clear ho hb HC hx
  generalize zs.length = N at *
  go_wp2_with fail
  refine (iGreatest A2 N c2 zs _ (by unfold maxLen; omega) hr).mono ?_
  rintro _ w2 ⟨rfl, hb2⟩
  rw [← HV.out]
  go_wp2
  go_ret
  exact Val.mk' rfl (by (repeat (first | exact In.refl _ | assumption | apply In.alloc | apply In.drewN | apply In.drew | (refine In.step ?_ (by assumption)))))
theorem sWinnerByPoints (A : Option Addr) (m c : Nat) (vs : List IntSR) (n : Int) (w : World) (hm : m ≤ maxLen) (hx : ReadsIntS w A m vs) : Calls Try.prog 22 #[.slice A m c, .int .i64 n] w (Val (i64 (winP m vs n)) w) := by
  have hz := PointsOfL_len m vs n
  have HV : Hid (winP m vs n = gidx (PointsOfL m vs n) (PointsOfL m vs n).length) := Lib.hid rfl
  have HC := Lib.hid (fun W h => sPointsOf A m c vs n W hm h)
  generalize winP m vs n = z at *
  generalize PointsOfL m vs n = zs at *
  go_enter Try.func22, Try.ntmps22
  go_wp2_with fail
  refine (HC.out _ (hx.in_ (by (repeat (first | exact In.refl _ | assumption | apply In.alloc | apply In.drewN | apply In.drew | (refine In.step ?_ (by assumption))))))).mono ?_
  rintro _ w1 ⟨A2, c2, rfl, ho, hb⟩
  have hr := reads_own_i ho
  have i1 : In w.heap.size w w1 := In.step (by (repeat (first | exact In.refl _ | assumption | apply In.alloc | apply In.drewN | apply In.drew | (refine In.step ?_ (by assumption))))) hb
  clear ho hb HC hx
  generalize zs.length = N at *
  go_wp2
  go_loopw [5, 7] (fun v i wr => ∃ k : Nat, k ≤ N ∧ i = .int .i64 k ∧ v = .int .i64 (gidx zs k) ∧ In w.heap.size w wr ∧ In w1.heap.size w1 wr) (fun _ i _ => N - (intOf i).toNat)
  case atStart => exact ⟨0, Nat.zero_le _, rfl, rfl, i1, In.refl _⟩
  case round =>
    clear i1
    obtain ⟨k, hk, rfl, rfl, hi, hj⟩ := hrel
    by_cases hlt : k < N
    · obtain ⟨a, rfl, ha⟩ := (hr.below hj.below (Nat.le_refl _)).2 k hlt
      by_cases h0 : k = 0
      · have hg : gidx zs k = -1 := if_pos h0
        have HS : Hid (gidx zs (k + 1) = k) := Lib.hid (by rw [h0]; simp [gidx, amax])
        rw [hg]
        generalize zs.getD k 0 = x at ha
        clear hg h0
        go_wp2
        go_quiet (fail)
        go_wp2
        go_roundw
        case rel => exact ⟨k + 1, by omega, by go_num, v_int (by rw [HS.out]), by (repeat (first | exact In.refl _ | assumption | apply In.alloc | apply In.drewN | apply In.drew | (refine In.step ?_ (by assumption)))), by (repeat (first | exact In.refl _ | assumption | apply In.alloc | apply In.drewN | apply In.drew | (refine In.step ?_ (by assumption))))⟩
        case measure => simp [intOf]; omega
      · have hmlt := amax_lt (gF zs) k (by omega)
        have hg : gidx zs k = ((amax (gF zs) k : Nat) : Int) := if_neg h0
        have hs : gidx zs (k + 1) = ((amax (gF zs) (k + 1) : Nat) : Int) := if_neg (by omega)
        rw [amax_succ] at hs
        have HS := Lib.hid hs
        rw [hg]
        clear hg hs
        generalize amax (gF zs) k = p at *
        have hpn : p < N := by omega
        obtain ⟨a2, ea, hm2⟩ := (hr.below hj.below (Nat.le_refl _)).2 p (by omega)
        obtain rfl : a = a2 := Option.some.inj ea
        have HX : Hid (gF zs k = zs.getD k 0) := Lib.hid rfl
        have HM : Hid (gF zs p = zs.getD p 0) := Lib.hid rfl
        generalize zs.getD k 0 = x at *
        generalize zs.getD p 0 = y at *
        by_cases hxy : y < x
        · go_wp2
          go_quiet (fail)
          go_wp2
          go_roundw
          case rel => exact ⟨k + 1, by omega, by go_num, v_int (by rw [HS.out, HX.out, HM.out, if_pos hxy]), by (repeat (first | exact In.refl _ | assumption | apply In.alloc | apply In.drewN | apply In.drew | (refine In.step ?_ (by assumption)))), by (repeat (first | exact In.refl _ | assumption | apply In.alloc | apply In.drewN | apply In.drew | (refine In.step ?_ (by assumption))))⟩
          case measure => simp [intOf]; omega
        · go_wp2
          go_quiet (fail)
          go_wp2
          go_roundw
          case rel => exact ⟨k + 1, by omega, by go_num, v_int (by rw [HS.out, HX.out, HM.out, if_neg (by omega)]), by (repeat (first | exact In.refl _ | assumption | apply In.alloc | apply In.drewN | apply In.drew | (refine In.step ?_ (by assumption)))), by (repeat (first | exact In.refl _ | assumption | apply In.alloc | apply In.drewN | apply In.drew | (refine In.step ?_ (by assumption))))⟩
          case measure => simp [intOf]; omega
    · obtain rfl : k = N := by omega
      go_wp2
      go_ret
      exact Val.mk' (v_int HV.out.symm) (by (repeat (first | exact In.refl _ | assumption | apply In.alloc | apply In.drewN | apply In.drew | (refine In.step ?_ (by assumption)))))
end Go.Proofs.Ytbbinndegcnedac
