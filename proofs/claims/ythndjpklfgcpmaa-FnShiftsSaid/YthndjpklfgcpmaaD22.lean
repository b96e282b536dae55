/- Chapter 22: RestBetween, HoursOf, NightHours, IsAllowed. -/
import Derived.Test.YthndjpklfgcpmaaC22
namespace Go.Proofs.Ythndjpklfgcpmaa
open Go.ChangeShapes Go.WideShapes Go.ChangeAt Go.RowKit
set_option linter.unusedVariables false
set_option linter.unusedSimpArgs false

def rT (xs : List ShiftR) : Nat → Int
  | 0 => 168
  | j + 1 => min (rT xs j) ((xs.getD (j + 1) z22).f0 - (xs.getD j z22).f1)
theorem rT_succ (xs : List ShiftR) (j : Nat) : rT xs (j + 1) = min (rT xs j) ((xs.getD (j + 1) z22).f0 - (xs.getD j z22).f1) := rfl
theorem shifts_in {n : Nat} {xs : List ShiftR} (h : ∀ i, i < n → shOk xs i = true) (i : Nat) (hi : i < n) : 0 ≤ (xs.getD i z22).f0 ∧ (xs.getD i z22).f0 ≤ 167 ∧ (xs.getD i z22).f0 + 1 ≤ (xs.getD i z22).f1 ∧ (xs.getD i z22).f1 ≤ (xs.getD i z22).f0 + 12 := shift_in (shOk_shift (h i hi))
theorem shifts_gap {n : Nat} {xs : List ShiftR} (h : ∀ i, i < n → shOk xs i = true) (i : Nat) (hi : i + 1 < n) : (xs.getD i z22).f1 ≤ (xs.getD (i + 1) z22).f0 := by
  have := h (i + 1) hi
  simp only [shOk, Bool.and_eq_true, decide_eq_true_eq] at this
  exact this.2
theorem rT_in {n : Nat} {xs : List ShiftR} (h : ∀ i, i < n → shOk xs i = true) (j : Nat) (hj : j = 0 ∨ j < n) : 0 ≤ rT xs j ∧ rT xs j ≤ 168 := by
  induction j with
  | zero => exact ⟨by simp [rT], by simp [rT]⟩
  | succ j ih =>
    have h1 := ih (by omega)
    have h2 := shifts_gap h j (by omega)
    rw [rT_succ]; omega
def restV (n : Nat) (xs : List ShiftR) : Int := if shiftsB n xs then rT xs (n - 1) else -1
def hG (xs : List ShiftR) (i : Nat) : Int := (xs.getD i z22).f1 - (xs.getD i z22).f0
def hoursV (n : Nat) (xs : List ShiftR) : Int := if shiftsB n xs then sumTo (hG xs) n else -1
def nightB (h : Int) : Bool := decide (h % 24 < 6) || decide (22 ≤ h % 24)
def nG (a : Int) (j : Nat) : Int := if nightB (a + j) then 1 else 0
def nS (xs : List ShiftR) (i : Nat) : Int := sumTo (nG (xs.getD i z22).f0) ((xs.getD i z22).f1 - (xs.getD i z22).f0).toNat
def nightV (n : Nat) (xs : List ShiftR) : Int := if shiftsB n xs then sumTo (nS xs) n else -1
theorem nG_in (a : Int) (j : Nat) : 0 ≤ nG a j ∧ nG a j ≤ 1 := by unfold nG; split <;> omega
theorem nS_in {n : Nat} {xs : List ShiftR} (h : ∀ i, i < n → shOk xs i = true) (i : Nat) (hi : i < n) : 0 ≤ nS xs i ∧ nS xs i ≤ 12 := by
  have h1 := shifts_in h i hi
  have h2 := sumTo_bd (nG (xs.getD i z22).f0) 1 ((xs.getD i z22).f1 - (xs.getD i z22).f0).toNat fun j _ => nG_in _ j
  unfold nS; omega
set_option maxHeartbeats 2000000 in
theorem iRestBetween (A : Option Addr) (n c : Nat) (xs : List ShiftR) (w : World) (hn : n ≤ maxLen) (hx : ReadsShift w A n xs) : Calls Try.prog 30 #[.slice A n c] w (Val (i64 (restV n xs)) w) := by
  cases hB : shiftsB n xs
  · have HV : Hid (restV n xs = -1) := Lib.hid (by simp [restV, hB])
    go_enter Try.func30, Try.ntmps30
    go_wp2_with fail
    refine (iShiftsOk A n c xs _ hn hx).mono ?_
    rintro _ w1 ⟨rfl, hb1⟩
    rw [hB]
    go_wp2
    go_ret
    exact Val.mk' (v_int HV.out.symm) (by (repeat (first | exact In.refl _ | assumption | apply In.alloc | apply In.drewN | apply In.drew | (refine In.step ?_ (by assumption)))))
  have HV : Hid (restV n xs = rT xs (n - 1)) := Lib.hid (by simp [restV, hB])
  obtain ⟨h14, hs⟩ := shifts_at hB
  have HS := Lib.hid hs
  clear hs
  go_enter Try.func30, Try.ntmps30
  go_wp2_with fail
  refine (iShiftsOk A n c xs _ hn hx).mono ?_
  rintro _ w1 ⟨rfl, hb1⟩
  rw [hB]
  have i1 : In w.heap.size w w1 := In.step (by (repeat (first | exact In.refl _ | assumption | apply In.alloc | apply In.drewN | apply In.drew | (refine In.step ?_ (by assumption))))) hb1
  clear hb1 hB
  go_wp2
  go_loopw [3, 4] (fun s i wr => ∃ j : Nat, (j = 0 ∨ j < n) ∧ i = .int .i64 ((j + 1 : Nat) : Int) ∧ s = .int .i64 (rT xs j) ∧ In w.heap.size w wr) (fun _ i _ => n - (intOf i).toNat)
  case atStart => exact ⟨0, .inl rfl, rfl, rfl, i1⟩
  case round =>
    clear i1
    obtain ⟨j, hj, rfl, rfl, hi⟩ := hrel
    obtain ⟨r1, r2⟩ := rT_in HS.out j hj
    have HU := Lib.hid (rT_succ xs j)
    obtain ⟨k, hk⟩ : ∃ k, k = j + 1 := ⟨_, rfl⟩
    have hk1 : wrap64 ((k : Int) - 1) = (j : Int) := by rw [show (k : Int) - 1 = (j : Int) by omega]; exact w64 (by omega)
    have hk3 : IntKind.i64.wrap ((k : Int) - 1) = (j : Int) := by rw [show (k : Int) - 1 = (j : Int) by omega]; exact IntWalk.i64_in _ (by omega)
    rw [← hk] at HU ⊢
    have HKJ := Lib.hid hk
    by_cases hlt : k < n
    · have hjn : j < n := by omega
      obtain ⟨a, rfl, ha0, ha1⟩ := (hx.in_ hi).2 k hlt
      obtain ⟨a2, ea, hb0, hb1⟩ := (hx.in_ hi).2 j hjn
      obtain rfl : a = a2 := Option.some.inj ea
      obtain ⟨d1, d2, d3, d4⟩ := shifts_in HS.out k hlt
      obtain ⟨e1, e2, e3, e4⟩ := shifts_in HS.out j hjn
      generalize xs.getD k z22 = x at *
      generalize xs.getD j z22 = y at *
      generalize rT xs j = r at *
      obtain ⟨x0, x1⟩ := x
      obtain ⟨y0, y1⟩ := y
      simp only at ha0 ha1 hb0 hb1 d1 d2 d3 d4 e1 e2 e3 e4 HU
      have hw : IntKind.i64.wrap (x0 - y1) = x0 - y1 := IntWalk.i64_in _ (by omega)
      clear hk hj
      by_cases hm : x0 - y1 < r
      all_goals
        go_wp2
        go_quiet (fail)
        go_wp2
        go_roundw
        case rel => exact ⟨k, .inr hlt, v_int (by omega), v_int (by rw [HU.out]; omega), by (repeat (first | exact In.refl _ | assumption | apply In.alloc | apply In.drewN | apply In.drew | (refine In.step ?_ (by assumption))))⟩
        case measure => simp [intOf]; omega
    · have HE : Hid (n - 1 = j) := Lib.hid (by omega)
      clear hk hj
      go_wp2
      go_ret
      exact Val.mk' (v_int (by rw [HV.out, HE.out])) (by (repeat (first | exact In.refl _ | assumption | apply In.alloc | apply In.drewN | apply In.drew | (refine In.step ?_ (by assumption)))))
set_option maxHeartbeats 2000000 in
theorem iHoursOf (A : Option Addr) (n c : Nat) (xs : List ShiftR) (w : World) (hn : n ≤ maxLen) (hx : ReadsShift w A n xs) : Calls Try.prog 28 #[.slice A n c] w (Val (i64 (hoursV n xs)) w) := by
  cases hB : shiftsB n xs
  · have HV : Hid (hoursV n xs = -1) := Lib.hid (by simp [hoursV, hB])
    go_enter Try.func28, Try.ntmps28
    go_wp2_with fail
    refine (iShiftsOk A n c xs _ hn hx).mono ?_
    rintro _ w1 ⟨rfl, hb1⟩
    rw [hB]
    go_wp2
    go_ret
    exact Val.mk' (v_int HV.out.symm) (by (repeat (first | exact In.refl _ | assumption | apply In.alloc | apply In.drewN | apply In.drew | (refine In.step ?_ (by assumption)))))
  have HV : Hid (hoursV n xs = sumTo (hG xs) n) := Lib.hid (by simp [hoursV, hB])
  obtain ⟨h14, hs⟩ := shifts_at hB
  have HS := Lib.hid hs
  clear hs
  go_enter Try.func28, Try.ntmps28
  go_wp2_with fail
  refine (iShiftsOk A n c xs _ hn hx).mono ?_
  rintro _ w1 ⟨rfl, hb1⟩
  rw [hB]
  have i1 : In w.heap.size w w1 := In.step (by (repeat (first | exact In.refl _ | assumption | apply In.alloc | apply In.drewN | apply In.drew | (refine In.step ?_ (by assumption))))) hb1
  clear hb1 hB
  go_wp2
  go_loopw [3, 11] (fun s i wr => ∃ k : Nat, k ≤ n ∧ i = .int .i64 k ∧ s = .int .i64 (sumTo (hG xs) k) ∧ In w.heap.size w wr) (fun _ i _ => n - (intOf i).toNat)
  case atStart => exact ⟨0, Nat.zero_le _, rfl, rfl, i1⟩
  case round =>
    clear i1
    obtain ⟨k, hk, rfl, rfl, hi⟩ := hrel
    have HU := Lib.hid (sumTo_succ (hG xs) k)
    obtain ⟨b1, b2⟩ := sumTo_bd (hG xs) 12 k fun i hi => by have := shifts_in HS.out i (by omega); unfold hG; omega
    by_cases hlt : k < n
    · obtain ⟨a, rfl, ha0, ha1⟩ := (hx.in_ hi).2 k hlt
      obtain ⟨d1, d2, d3, d4⟩ := shifts_in HS.out k hlt
      have HG : Hid (hG xs k = (xs.getD k z22).f1 - (xs.getD k z22).f0) := Lib.hid rfl
      generalize xs.getD k z22 = x at *
      generalize sumTo (hG xs) k = s at *
      obtain ⟨x0, x1⟩ := x
      simp only at ha0 ha1 d1 d2 d3 d4 HG
      have e1 : IntKind.i64.wrap (s + x1) = s + x1 := IntWalk.i64_in _ (by omega)
      have e2 : IntKind.i64.wrap (s + x1 - x0) = s + x1 - x0 := IntWalk.i64_in _ (by omega)
      go_wp2
      go_roundw
      case rel => exact ⟨k + 1, by omega, by go_num, v_int (by rw [HU.out, HG.out] <;> omega), by (repeat (first | exact In.refl _ | assumption | apply In.alloc | apply In.drewN | apply In.drew | (refine In.step ?_ (by assumption))))⟩
      case measure => simp [intOf]; omega
    · obtain rfl : k = n := by omega
      go_wp2
      go_ret
      exact Val.mk' (v_int HV.out.symm) (by (repeat (first | exact In.refl _ | assumption | apply In.alloc | apply In.drewN | apply In.drew | (refine In.step ?_ (by assumption)))))
theorem iisNight (h : Int) (h1 : 0 ≤ h) (h2 : h ≤ 200) (w : World) : Calls Try.prog 62 #[.int .i64 h] w (Same (.bool (nightB h)) w) := by
  by_cases g1 : h % 24 < 6 <;> by_cases g2 : 22 ≤ h % 24
  all_goals
    go_enter Try.func62, Try.ntmps62
    go_wp2
    go_ret
    exact ⟨ret_bool (by simp [nightB, g1, g2]), rfl⟩
set_option maxHeartbeats 4000000 in
theorem iNightHours (A : Option Addr) (n c : Nat) (xs : List ShiftR) (w : World) (hn : n ≤ maxLen) (hx : ReadsShift w A n xs) : Calls Try.prog 29 #[.slice A n c] w (Val (i64 (nightV n xs)) w) := by
  cases hB : shiftsB n xs
  · have HV : Hid (nightV n xs = -1) := Lib.hid (by simp [nightV, hB])
    go_enter Try.func29, Try.ntmps29
    go_wp2_with fail
    refine (iShiftsOk A n c xs _ hn hx).mono ?_
    rintro _ w1 ⟨rfl, hb1⟩
    rw [hB]
    go_wp2
    go_ret
    exact Val.mk' (v_int HV.out.symm) (by (repeat (first | exact In.refl _ | assumption | apply In.alloc | apply In.drewN | apply In.drew | (refine In.step ?_ (by assumption)))))
  have HV : Hid (nightV n xs = sumTo (nS xs) n) := Lib.hid (by simp [nightV, hB])
  obtain ⟨h14, hs⟩ := shifts_at hB
  have HS := Lib.hid hs
  clear hs
  go_enter Try.func29, Try.ntmps29
  go_wp2_with fail
  refine (iShiftsOk A n c xs _ hn hx).mono ?_
  rintro _ w1 ⟨rfl, hb1⟩
  rw [hB]
  have i1 : In w.heap.size w w1 := In.step (by (repeat (first | exact In.refl _ | assumption | apply In.alloc | apply In.drewN | apply In.drew | (refine In.step ?_ (by assumption))))) hb1
  clear hb1 hB
  go_wp2
  go_loopw [3, 12] (fun s i wr => ∃ k : Nat, k ≤ n ∧ i = .int .i64 k ∧ s = .int .i64 (sumTo (nS xs) k) ∧ In w.heap.size w wr) (fun _ i _ => n - (intOf i).toNat)
  case atStart => exact ⟨0, Nat.zero_le _, rfl, rfl, i1⟩
  case round =>
    clear i1
    obtain ⟨k, hk, rfl, rfl, hi⟩ := hrel
    have HU := Lib.hid (sumTo_succ (nS xs) k)
    obtain ⟨b1, b2⟩ := sumTo_bd (nS xs) 12 k fun i hi => nS_in HS.out i (by omega)
    by_cases hlt : k < n
    · obtain ⟨a, rfl, ha0, ha1⟩ := (hx.in_ hi).2 k hlt
      obtain ⟨d1, d2, d3, d4⟩ := shifts_in HS.out k hlt
      have HG : Hid (nS xs k = sumTo (nG (xs.getD k z22).f0) ((xs.getD k z22).f1 - (xs.getD k z22).f0).toNat) := Lib.hid rfl
      generalize xs.getD k z22 = x at *
      generalize sumTo (nS xs) k = s at *
      obtain ⟨x0, x1⟩ := x
      simp only at ha0 ha1 d1 d2 d3 d4 HG
      obtain ⟨m, hm⟩ : ∃ m : Nat, x1 - x0 = m := ⟨(x1 - x0).toNat, by omega⟩
      have HM : Hid ((x1 - x0).toNat = m) := Lib.hid (by omega)
      have HX : Hid (x1 - x0 = m) := Lib.hid hm
      have hm12 : m ≤ 12 := by omega
      go_wp2
      have i2 : In w.heap.size w (wr.alloc (.cells #[.int .i64 x0, .int .i64 x1] 41)) := by (repeat (first | exact In.refl _ | assumption | apply In.alloc | apply In.drewN | apply In.drew | (refine In.step ?_ (by assumption))))
      have k2 : Blk (wr.alloc (.cells #[.int .i64 x0, .int .i64 x1] 41)) wr.heap.size 41 #[.int .i64 x0, .int .i64 x1] := Blk.new wr _ _
      have c0 : (wr.alloc (.cells #[.int .i64 x0, .int .i64 x1] 41)).cell? ⟨wr.heap.size, 0, none⟩ = some (.int .i64 x0) := k2.cell 0
      have c1 : (wr.alloc (.cells #[.int .i64 x0, .int .i64 x1] 41)).cell? ⟨wr.heap.size, 1, none⟩ = some (.int .i64 x1) := k2.cell 1
      go_loopw [3, 6] (fun t h wr2 => ∃ j : Nat, j ≤ m ∧ h = .int .i64 (x0 + j) ∧ t = .int .i64 (s + sumTo (nG x0) j) ∧ wr2 = (wr.alloc (.cells #[.int .i64 x0, .int .i64 x1] 41))) (fun _ h _ => (x1 - intOf h).toNat)
      case atStart => exact ⟨0, Nat.zero_le _, by simp, by simp [sumTo], rfl⟩
      case round =>
        obtain ⟨j, hj, rfl, rfl, rfl⟩ := hrel
        have HN := Lib.hid (sumTo_succ (nG x0) j)
        obtain ⟨e1, e2⟩ := sumTo_bd (nG x0) 1 j fun i _ => nG_in _ i
        by_cases hl : x0 + j < x1
        · obtain ⟨h, hh⟩ : ∃ h, h = x0 + j := ⟨_, rfl⟩
          have HNG : Hid (nG x0 j = if nightB h then 1 else 0) := Lib.hid (by rw [hh]; rfl)
          have HH := Lib.hid hh
          have hr1 : 0 ≤ h := by omega
          have hr2 : h ≤ 200 := by omega
          have hjm := HX.out
          rw [← hh] at hl ⊢
          clear hh
          cases hb : nightB h
          · go_wp2_with (first | (go_at_call 48; refine (sIn _ _ _ _).mono ?_; rintro e w' ⟨rfl, rfl⟩) | (go_at_call 50; refine (iIn _ _ _ _).mono ?_; rintro e w' ⟨rfl, rfl⟩) | (go_at_call 62; refine (iisNight h hr1 hr2 _).mono ?_; rintro e w' ⟨rfl, rfl⟩) | go_in | (go_end0; simp only []; go_at_K))
            go_roundw
            case rel => exact ⟨j + 1, by have := HX.out; have := HH.out; omega, v_int (by have := HH.out; omega), v_int (by rw [HN.out, HNG.out, hb]; simp), by first | rfl | trivial⟩
            case measure => simp [intOf]; omega
          · go_wp2_with (first | (go_at_call 48; refine (sIn _ _ _ _).mono ?_; rintro e w' ⟨rfl, rfl⟩) | (go_at_call 50; refine (iIn _ _ _ _).mono ?_; rintro e w' ⟨rfl, rfl⟩) | (go_at_call 62; refine (iisNight h hr1 hr2 _).mono ?_; rintro e w' ⟨rfl, rfl⟩) | go_in | (go_end0; simp only []; go_at_K))
            go_roundw
            case rel => exact ⟨j + 1, by have := HX.out; have := HH.out; omega, v_int (by have := HH.out; omega), v_int (by rw [HN.out, HNG.out, hb]; simp; omega), by first | rfl | trivial⟩
            case measure => simp [intOf]; omega
        · obtain rfl : j = m := by have := HX.out; omega
          clear HN
          go_wp2
          go_roundw
          case rel => exact ⟨k + 1, by omega, by go_num, v_int (by rw [HU.out, HG.out, HM.out]), by (repeat (first | exact In.refl _ | assumption | apply In.alloc | apply In.drewN | apply In.drew | (refine In.step ?_ (by assumption))))⟩
          case measure => simp [intOf]; omega
    · obtain rfl : k = n := by omega
      go_wp2
      go_ret
      exact Val.mk' (v_int HV.out.symm) (by (repeat (first | exact In.refl _ | assumption | apply In.alloc | apply In.drewN | apply In.drew | (refine In.step ?_ (by assumption)))))
def allowB (n : Nat) (xs : List ShiftR) (r h : Int) : Bool := shiftsB n xs && decide (r ≤ restV n xs) && decide (hoursV n xs ≤ h)
theorem iIsAllowed (A : Option Addr) (n c : Nat) (xs : List ShiftR) (r h : Int) (w : World) (hn : n ≤ maxLen) (hx : ReadsShift w A n xs) : Calls Try.prog 33 #[.slice A n c, .int .i64 r, .int .i64 h] w (Val (.bool (allowB n xs r h)) w) := by
  cases hB : shiftsB n xs
  · go_enter Try.func33, Try.ntmps33
    go_wp2_with fail
    refine (iShiftsOk A n c xs _ hn hx).mono ?_
    rintro _ w1 ⟨rfl, hb1⟩
    rw [hB]
    go_wp2
    go_ret
    exact Val.mk' (v_bool (by simp [allowB, hB])) (by (repeat (first | exact In.refl _ | assumption | apply In.alloc | apply In.drewN | apply In.drew | (refine In.step ?_ (by assumption)))))
  go_enter Try.func33, Try.ntmps33
  go_wp2_with fail
  refine (iShiftsOk A n c xs _ hn hx).mono ?_
  rintro _ w1 ⟨rfl, hb1⟩
  rw [hB]
  have i1 : In w.heap.size w w1 := In.step (by (repeat (first | exact In.refl _ | assumption | apply In.alloc | apply In.drewN | apply In.drew | (refine In.step ?_ (by assumption))))) hb1
  clear hb1
  go_wp2_with fail
  refine (iRestBetween A n c xs _ hn (hx.in_ (by (repeat (first | exact In.refl _ | assumption | apply In.alloc | apply In.drewN | apply In.drew | (refine In.step ?_ (by assumption))))))).mono ?_
  rintro _ w2 ⟨rfl, hb2⟩
  have i2 : In w.heap.size w w2 := In.step (by (repeat (first | exact In.refl _ | assumption | apply In.alloc | apply In.drewN | apply In.drew | (refine In.step ?_ (by assumption))))) hb2
  clear hb2 i1
  by_cases g1 : r ≤ restV n xs
  · go_wp2_with fail
    refine (iHoursOf A n c xs _ hn (hx.in_ (by (repeat (first | exact In.refl _ | assumption | apply In.alloc | apply In.drewN | apply In.drew | (refine In.step ?_ (by assumption))))))).mono ?_
    rintro _ w3 ⟨rfl, hb3⟩
    have i3 : In w.heap.size w w3 := In.step (by (repeat (first | exact In.refl _ | assumption | apply In.alloc | apply In.drewN | apply In.drew | (refine In.step ?_ (by assumption))))) hb3
    clear hb3 i2
    by_cases g2 : hoursV n xs ≤ h
    all_goals
      go_wp2
      go_ret
      exact Val.mk' (v_bool (by simp [allowB, hB, g1, g2])) (by (repeat (first | exact In.refl _ | assumption | apply In.alloc | apply In.drewN | apply In.drew | (refine In.step ?_ (by assumption)))))
  · have g1' : restV n xs < r := by omega
    go_wp2
    go_ret
    exact Val.mk' (v_bool (by simp [allowB, hB]; omega)) (by (repeat (first | exact In.refl _ | assumption | apply In.alloc | apply In.drewN | apply In.drew | (refine In.step ?_ (by assumption)))))
end Go.Proofs.Ythndjpklfgcpmaa
