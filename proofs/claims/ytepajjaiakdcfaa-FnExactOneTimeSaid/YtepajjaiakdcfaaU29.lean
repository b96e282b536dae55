/- Chapter 29: OneTime: the call through the interface. -/
import Derived.Test.YtepajjaiakdcfaaT29
namespace Go.Proofs.Ytepajjaiakdcfaa
open Go.ChangeShapes Go.WideShapes Go.ChangeAt Go.RowKit
set_option linter.unusedVariables false
set_option linter.unusedSimpArgs false
set_option maxHeartbeats 2000000

set_option maxRecDepth 20000 in
set_option maxHeartbeats 8000000 in
theorem ilatestOut (A : Option Addr) (n c : Nat) (xs : List FrozenR) (q : Int) (w : World) (hn : n ≤ maxLen) (hx : ReadsFrozen w A n xs) : Calls Try.prog 91 #[.iface 117 (.slice A n c), .int .i64 q] w (Val (oneV n xs q) w) := by
  have hm : ∀ w, (method 352 117 (.slice A n c) "loop.example/g03310/impl.outAt").run Try.prog w = .ok (222, .slice A n c) w := fun _ => by kernel_rfl
  go_enter Try.func91, Try.ntmps91
  go_wp2_with fail
  refine (itrayOut A n c xs q _ hn hx).mono ?_
  rintro _ w1 ⟨rfl, hb1⟩
  have i1 := (In.refl w).step hb1
  clear hb1
  cases hc : winB n xs q && !(decide (n = 0))
  · have HV : Hid (trayV n xs q = .tuple #[.agg #[.int .i64 0, .int .i64 0], .bool false]) := Lib.hid (by unfold trayV; rw [hc]; rfl)
    have HO : Hid (oneV n xs q = .tuple #[.int .i64 0, .bool false]) := Lib.hid (by
      unfold oneV oneB
      rw [if_neg]
      intro h
      simp only [Bool.and_eq_true, Bool.not_eq_true', decide_eq_false_iff_not] at h
      rw [win_ok (by omega), h.1.1] at hc
      simp [h.1.2] at hc)
    rw [HV.out]
    go_wp2
    exact bodyPost_ret (v := .tuple #[.int .i64 0, .bool false]) (by simp [results, Try.results91, go_sem]) rfl (Val.mk' (by rw [HO.out]) (i1.alloc _))
  have hc2 := hc
  simp only [Bool.and_eq_true, Bool.not_eq_true', decide_eq_false_iff_not] at hc2
  obtain ⟨hw, hn0⟩ := hc2
  rw [win_ok (by omega)] at hw
  by_cases hle : lowO xs q n ≤ highO xs q n
  · have HV : Hid (trayV n xs q = .tuple #[.agg #[.int .i64 (lowO xs q n), .int .i64 (highO xs q n)], .bool true]) := Lib.hid (by unfold trayV; rw [if_pos hc, decide_eq_true hle])
    have HO : Hid (oneV n xs q = .tuple #[.int .i64 (highO xs q n), .bool true]) := Lib.hid (by
      unfold oneV oneB
      rw [hw, decide_eq_true hle, decide_eq_false hn0]
      rfl)
    rw [HV.out]
    go_wp2
    exact bodyPost_ret (v := .tuple #[.int .i64 (highO xs q n), .bool true]) (by simp [results, Try.results91, go_sem]) rfl (Val.mk' (by rw [HO.out]) (i1.alloc _))
  · have HV : Hid (trayV n xs q = .tuple #[.agg #[.int .i64 (lowO xs q n), .int .i64 (highO xs q n)], .bool false]) := Lib.hid (by unfold trayV; rw [if_pos hc, decide_eq_false hle])
    have HO : Hid (oneV n xs q = .tuple #[.int .i64 0, .bool false]) := Lib.hid (by
      unfold oneV oneB
      rw [hw, decide_eq_false hle]
      simp)
    rw [HV.out]
    go_wp2
    exact bodyPost_ret (v := .tuple #[.int .i64 0, .bool false]) (by simp [results, Try.results91, go_sem]) rfl (Val.mk' (by rw [HO.out]) (i1.alloc _))
theorem iOneTime (A : Option Addr) (n c : Nat) (xs : List FrozenR) (q : Int) (w : World) (hn : n ≤ maxLen) (hx : ReadsFrozen w A n xs) : Calls Try.prog 23 #[.slice A n c, .int .i64 q] w (Val (oneV n xs q) w) := by
  obtain ⟨r0, r1, hv⟩ : ∃ r0 r1, oneV n xs q = .tuple #[.int .i64 r0, .bool r1] := by
    unfold oneV
    split <;> exact ⟨_, _, rfl⟩
  have HV := Lib.hid hv
  clear hv
  go_enter Try.func23, Try.ntmps23
  go_wp2_with fail
  refine (ilatestOut A n c xs q _ hn hx).mono ?_
  rintro _ w1 ⟨rfl, hb1⟩
  rw [HV.out]
  go_wp2
  exact bodyPost_ret (v := .tuple #[.int .i64 r0, .bool r1]) (by simp [results, Try.results23, go_sem]) rfl ⟨by rw [HV.out], hb1⟩
end Go.Proofs.Ytepajjaiakdcfaa
