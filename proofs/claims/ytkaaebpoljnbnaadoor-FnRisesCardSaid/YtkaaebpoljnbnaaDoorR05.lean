/- Chapter 5: MinutesAt, CoolestFor, RiseAfter, ReadyAt. -/
import Derived.Test.YtkaaebpoljnbnaaDoorC05
import Derived.Test.YtkaaebpoljnbnaaDoorIntR
import Derived.Test.YtkaaebpoljnbnaaDoorSum
namespace Go.Proofs.YtkaaebpoljnbnaaDoor
open Go.ChangeShapes Go.WideShapes Go.ChangeAt Go.RowKit
set_option linter.unusedVariables false
set_option linter.unusedSimpArgs false

theorem speed_in (d : Int) : -1 ≤ speedV d ∧ speedV d ≤ 16 := by
  unfold speedV
  (repeat' split) <;> omega
def minutesV (d p : Int) : Int := if 1 ≤ speedV d ∧ inB p 0 10000 = true then (p + speedV d - 1) / speedV d else -1
theorem minutes_in (d p : Int) : -1 ≤ minutesV d p ∧ minutesV d p ≤ 20000 := by
  have h := speed_in d
  unfold minutesV
  split
  · rename_i e
    have h1 := inB_tt e.2
    have h2 : 0 ≤ (p + speedV d - 1) / speedV d := Int.ediv_nonneg (by omega) (by omega)
    have h3 := Int.ediv_le_self (a := p + speedV d - 1) (speedV d) (by omega)
    omega
  · omega
def firstOr (p : Int → Bool) : Nat → Int → Int
  | 0, _ => -1
  | k + 1, g => if p g then g else firstOr p k (g + 1)
def coolP (p m d : Int) : Bool := decide (minutesV d p ≤ m)
def coolV (p m : Int) : Int := if inB p 0 10000 && inB m 1 10000 then firstOr (coolP p m) 31 4 else -1
def rOk (xs : List Int) (i : Nat) : Bool := decide (0 ≤ speedV (xs.getD i 0))
def rG (xs : List Int) (i : Nat) : Int := speedV (xs.getD i 0)
def riseV (n : Nat) (xs : List Int) : Int := if n ≤ 1000 ∧ allOk (rOk xs) n = true then sumTo (rG xs) n else -1
def firstIx (q : Nat → Bool) : Nat → Nat → Int
  | 0, _ => -1
  | f + 1, k => if q k then k else firstIx q f (k + 1)
def readyP (xs : List Int) (p : Int) (k : Nat) : Bool := decide (p ≤ sumTo (rG xs) (k + 1))
def readyV (n : Nat) (xs : List Int) (p : Int) : Int := if 0 ≤ riseV n xs ∧ inB p 1 10000 = true then firstIx (readyP xs p) n 0 else -1
theorem rise_at {n : Nat} {xs : List Int} (h : 0 ≤ riseV n xs) : n ≤ 1000 ∧ ∀ i, i < n → 0 ≤ rG xs i ∧ rG xs i ≤ 16 := by
  unfold riseV at h
  split at h
  · rename_i e
    refine ⟨e.1, fun i hi => ?_⟩
    have h1 := allOk_at _ _ e.2 i hi
    simp [rOk] at h1
    exact ⟨h1, (speed_in _).2⟩
  · omega
theorem iMinutesAt (d p : Int) (w : World) (hb : Bands w) : Calls Tryd.prog 18 #[.int .i64 d, .int .i64 p] w (Val (i64 (minutesV d p)) w) := by
  obtain ⟨s1, s2⟩ := speed_in d
  by_cases h1 : 1 ≤ speedV d
  rotate_left
  · have HV : Hid (minutesV d p = -1) := Lib.hid (if_neg (by omega))
    have h1' : speedV d ≤ 0 := by omega
    go_enter Tryd.func18, Tryd.ntmps18
    go_wp2_with fail
    refine (iSpeedAt d _ hb).mono ?_
    rintro _ w1 ⟨rfl, hb1⟩
    go_wp2_with (first | (go_at_call 24; refine (iIn _ _ _ _).mono ?_; rintro e w' ⟨rfl, rfl⟩) | go_in | (go_end0; simp only []; go_at_K))
    go_ret
    exact Val.mk' (v_int HV.out.symm) (by (repeat (first | exact In.refl _ | assumption | apply In.alloc | apply In.drewN | apply In.drew | (refine In.step ?_ (by assumption)))))
  cases h2 : inB p 0 10000
  · have HV : Hid (minutesV d p = -1) := Lib.hid (if_neg (by simp [h2]))
    go_enter Tryd.func18, Tryd.ntmps18
    go_wp2_with fail
    refine (iSpeedAt d _ hb).mono ?_
    rintro _ w1 ⟨rfl, hb1⟩
    go_wp2_with (first | (go_at_call 24; refine (iIn _ _ _ _).mono ?_; rintro e w' ⟨rfl, rfl⟩) | go_in | (go_end0; simp only []; go_at_K))
    go_ret
    exact Val.mk' (v_int HV.out.symm) (by (repeat (first | exact In.refl _ | assumption | apply In.alloc | apply In.drewN | apply In.drew | (refine In.step ?_ (by assumption)))))
  have HV : Hid (minutesV d p = (p + speedV d - 1) / speedV d) := Lib.hid (if_pos ⟨h1, h2⟩)
  obtain ⟨b1, b2⟩ := inB_tt h2
  go_enter Tryd.func18, Tryd.ntmps18
  go_wp2_with fail
  refine (iSpeedAt d _ hb).mono ?_
  rintro _ w1 ⟨rfl, hb1⟩
  go_wp2_with (first | (go_at_call 24; refine (iIn _ _ _ _).mono ?_; rintro e w' ⟨rfl, rfl⟩) | go_in | (go_end0; simp only []; go_at_K))
  go_ret
  exact Val.mk' (v_int HV.out.symm) (by (repeat (first | exact In.refl _ | assumption | apply In.alloc | apply In.drewN | apply In.drew | (refine In.step ?_ (by assumption)))))
theorem iCoolestFor (p m : Int) (w : World) (hb : Bands w) : Calls Tryd.prog 19 #[.int .i64 p, .int .i64 m] w (Val (i64 (coolV p m)) w) := by
  have HBN := Lib.hid hb
  clear hb
  cases h1 : inB p 0 10000
  · have HV : Hid (coolV p m = -1) := Lib.hid (by simp [coolV, h1])
    go_enter Tryd.func19, Tryd.ntmps19
    go_wp2_with (first | (go_at_call 24; refine (iIn _ _ _ _).mono ?_; rintro e w' ⟨rfl, rfl⟩) | go_in | (go_end0; simp only []; go_at_K))
    go_ret
    exact Val.mk' (v_int HV.out.symm) (by (repeat (first | exact In.refl _ | assumption | apply In.alloc | apply In.drewN | apply In.drew | (refine In.step ?_ (by assumption)))))
  cases h2 : inB m 1 10000
  · have HV : Hid (coolV p m = -1) := Lib.hid (by simp [coolV, h1, h2])
    go_enter Tryd.func19, Tryd.ntmps19
    go_wp2_with (first | (go_at_call 24; refine (iIn _ _ _ _).mono ?_; rintro e w' ⟨rfl, rfl⟩) | go_in | (go_end0; simp only []; go_at_K))
    go_ret
    exact Val.mk' (v_int HV.out.symm) (by (repeat (first | exact In.refl _ | assumption | apply In.alloc | apply In.drewN | apply In.drew | (refine In.step ?_ (by assumption)))))
  have HV : Hid (coolV p m = firstOr (coolP p m) 31 4) := Lib.hid (by simp [coolV, h1, h2])
  go_enter Tryd.func19, Tryd.ntmps19
  go_wp2_with (first | (go_at_call 24; refine (iIn _ _ _ _).mono ?_; rintro e w' ⟨rfl, rfl⟩) | go_in | (go_end0; simp only []; go_at_K))
  clear h1 h2
  go_loopw [5] (fun t wr => ∃ d : Int, 4 ≤ d ∧ d ≤ 35 ∧ t = .int .i64 d ∧ coolV p m = firstOr (coolP p m) (35 - d).toNat d ∧ In w.heap.size w wr) (fun t _ => (35 - intOf t).toNat)
  case atStart => exact ⟨4, by omega, by omega, rfl, HV.out, by (repeat (first | exact In.refl _ | assumption | apply In.alloc | apply In.drewN | apply In.drew | (refine In.step ?_ (by assumption))))⟩
  case round =>
    obtain ⟨d, d1, d2, rfl, hv, hi⟩ := hrel
    have HD := Lib.hid hv
    clear hv
    obtain ⟨m1, m2⟩ := minutes_in d p
    by_cases hlt : d ≤ 34
    · have HS : Hid (firstOr (coolP p m) (35 - d).toNat d = if coolP p m d = true then d else firstOr (coolP p m) (35 - (d + 1)).toNat (d + 1)) := Lib.hid (by rw [show (35 - d).toNat = (35 - (d + 1)).toNat + 1 from by omega]; rfl)
      by_cases ht : minutesV d p ≤ m
      · have HP : Hid (coolP p m d = true) := Lib.hid (by simp [coolP, ht])
        go_wp2_with fail
        refine (iMinutesAt d p _ (HBN.out.in_ (by (repeat (first | exact In.refl _ | assumption | apply In.alloc | apply In.drewN | apply In.drew | (refine In.step ?_ (by assumption))))))).mono ?_
        rintro _ w1 ⟨rfl, hb1⟩
        go_wp2
        go_ret
        exact Val.mk' (v_int (by rw [HD.out, HS.out, if_pos HP.out])) (by (repeat (first | exact In.refl _ | assumption | apply In.alloc | apply In.drewN | apply In.drew | (refine In.step ?_ (by assumption)))))
      · have HP : Hid (coolP p m d = false) := Lib.hid (by simp [coolP]; omega)
        have ht' : m < minutesV d p := by omega
        go_wp2_with fail
        refine (iMinutesAt d p _ (HBN.out.in_ (by (repeat (first | exact In.refl _ | assumption | apply In.alloc | apply In.drewN | apply In.drew | (refine In.step ?_ (by assumption))))))).mono ?_
        rintro _ w1 ⟨rfl, hb1⟩
        go_wp2
        go_roundw
        case rel => exact ⟨d + 1, by omega, by omega, rfl, by rw [HD.out, HS.out, HP.out]; simp, by (repeat (first | exact In.refl _ | assumption | apply In.alloc | apply In.drewN | apply In.drew | (refine In.step ?_ (by assumption))))⟩
        case measure => simp [intOf]; omega
    · obtain rfl : d = 35 := by omega
      go_wp2
      go_ret
      exact Val.mk' (v_int (by rw [HD.out]; rfl)) (by (repeat (first | exact In.refl _ | assumption | apply In.alloc | apply In.drewN | apply In.drew | (refine In.step ?_ (by assumption)))))
set_option maxHeartbeats 1000000 in
theorem iRiseAfter (A : Option Addr) (n c : Nat) (xs : List Int) (w : World) (hn : n ≤ 1048576) (hx : ReadsI w A n xs) (hb : Bands w) : Calls Tryd.prog 15 #[.slice A n c] w (Val (i64 (riseV n xs)) w) := by
  have HBN := Lib.hid hb
  clear hb
  by_cases h1000 : n ≤ 1000
  rotate_left
  · have HV : Hid (riseV n xs = -1) := Lib.hid (if_neg (by omega))
    have h' : 1000 < n := by omega
    go_enter Tryd.func15, Tryd.ntmps15
    go_wp2
    go_ret
    exact Val.mk' (v_int HV.out.symm) (by (repeat (first | exact In.refl _ | assumption | apply In.alloc | apply In.drewN | apply In.drew | (refine In.step ?_ (by assumption)))))
  go_enter Tryd.func15, Tryd.ntmps15
  go_wp2
  go_loopw [3, 12] (fun s i wr => ∃ k : Nat, k ≤ n ∧ i = .int .i64 k ∧ s = .int .i64 (sumTo (rG xs) k) ∧ (∀ i, i < k → rOk xs i = true) ∧ In w.heap.size w wr) (fun _ i _ => n - (intOf i).toNat)
  case atStart => exact ⟨0, Nat.zero_le _, rfl, rfl, fun i hi => absurd hi (Nat.not_lt_zero _), by (repeat (first | exact In.refl _ | assumption | apply In.alloc | apply In.drewN | apply In.drew | (refine In.step ?_ (by assumption))))⟩
  case round =>
    obtain ⟨k, hk, rfl, rfl, ho, hi⟩ := hrel
    have HO := Lib.hid ho
    clear ho
    obtain ⟨s1, s2⟩ := sumTo_bd (rG xs) 16 k fun i hi => ⟨by have := HO.out i hi; simpa [rOk, rG] using this, (speed_in _).2⟩
    by_cases hlt : k < n
    · obtain ⟨a, rfl, ha⟩ := (hx.below hi.below (Nat.le_refl _)).2 k hlt
      have HU := Lib.hid (sumTo_succ (rG xs) k)
      have HG : Hid (rG xs k = speedV (xs.getD k 0)) := Lib.hid rfl
      have HK : Hid (rOk xs k = decide (0 ≤ speedV (xs.getD k 0))) := Lib.hid rfl
      generalize xs.getD k 0 = y at ha HG HK
      obtain ⟨q1, q2⟩ := speed_in y
      by_cases hs : speedV y < 0
      · have HF : Hid (riseV n xs = -1) := Lib.hid (if_neg (by rw [allOk_f _ _ k hlt (by rw [HK.out]; simp; omega)]; simp))
        go_wp2_with fail
        refine (iSpeedAt y _ (HBN.out.in_ (by (repeat (first | exact In.refl _ | assumption | apply In.alloc | apply In.drewN | apply In.drew | (refine In.step ?_ (by assumption))))))).mono ?_
        rintro _ w1 ⟨rfl, hb1⟩
        go_wp2
        go_ret
        exact Val.mk' (v_int HF.out.symm) (by (repeat (first | exact In.refl _ | assumption | apply In.alloc | apply In.drewN | apply In.drew | (refine In.step ?_ (by assumption)))))
      · have HT : Hid (rOk xs k = true) := Lib.hid (by rw [HK.out]; simp; omega)
        have hs' : 0 ≤ speedV y := by omega
        go_wp2_with fail
        refine (iSpeedAt y _ (HBN.out.in_ (by (repeat (first | exact In.refl _ | assumption | apply In.alloc | apply In.drewN | apply In.drew | (refine In.step ?_ (by assumption))))))).mono ?_
        rintro _ w1 ⟨rfl, hb1⟩
        go_wp2
        go_roundw
        case rel => exact ⟨k + 1, by omega, by go_num, v_int (by rw [HU.out, HG.out]), fun i hi => by
            by_cases e : i = k
            · subst e; exact HT.out
            · exact HO.out i (by omega), by (repeat (first | exact In.refl _ | assumption | apply In.alloc | apply In.drewN | apply In.drew | (refine In.step ?_ (by assumption))))⟩
        case measure => simp [intOf]; omega
    · obtain rfl : k = n := by omega
      go_wp2
      go_ret
      exact Val.mk' (v_int (if_pos ⟨h1000, allOk_t _ _ HO.out⟩ : riseV k xs = sumTo (rG xs) k).symm) (by (repeat (first | exact In.refl _ | assumption | apply In.alloc | apply In.drewN | apply In.drew | (refine In.step ?_ (by assumption)))))
set_option maxHeartbeats 1000000 in
theorem iReadyAt (A : Option Addr) (n c : Nat) (xs : List Int) (p : Int) (w : World) (hn : n ≤ 1048576) (hx : ReadsI w A n xs) (hb : Bands w) : Calls Tryd.prog 16 #[.slice A n c, .int .i64 p] w (Val (i64 (readyV n xs p)) w) := by
  by_cases h0 : riseV n xs < 0
  · have HV : Hid (readyV n xs p = -1) := Lib.hid (if_neg (by omega))
    go_enter Tryd.func16, Tryd.ntmps16
    go_wp2_with fail
    refine (iRiseAfter A n c xs _ hn hx hb).mono ?_
    rintro _ w1 ⟨rfl, hb1⟩
    go_wp2_with (first | (go_at_call 24; refine (iIn _ _ _ _).mono ?_; rintro e w' ⟨rfl, rfl⟩) | go_in | (go_end0; simp only []; go_at_K))
    go_ret
    exact Val.mk' (v_int HV.out.symm) (by (repeat (first | exact In.refl _ | assumption | apply In.alloc | apply In.drewN | apply In.drew | (refine In.step ?_ (by assumption)))))
  have h0' : 0 ≤ riseV n xs := by omega
  cases h2 : inB p 1 10000
  · have HV : Hid (readyV n xs p = -1) := Lib.hid (if_neg (by simp [h2]))
    go_enter Tryd.func16, Tryd.ntmps16
    go_wp2_with fail
    refine (iRiseAfter A n c xs _ hn hx hb).mono ?_
    rintro _ w1 ⟨rfl, hb1⟩
    go_wp2_with (first | (go_at_call 24; refine (iIn _ _ _ _).mono ?_; rintro e w' ⟨rfl, rfl⟩) | go_in | (go_end0; simp only []; go_at_K))
    go_ret
    exact Val.mk' (v_int HV.out.symm) (by (repeat (first | exact In.refl _ | assumption | apply In.alloc | apply In.drewN | apply In.drew | (refine In.step ?_ (by assumption)))))
  have HV : Hid (readyV n xs p = firstIx (readyP xs p) n 0) := Lib.hid (if_pos ⟨h0', h2⟩)
  obtain ⟨h1000, hr⟩ := rise_at h0'
  have HR := Lib.hid hr
  have HBN := Lib.hid hb
  go_enter Tryd.func16, Tryd.ntmps16
  go_wp2_with fail
  refine (iRiseAfter A n c xs _ hn hx hb).mono ?_
  rintro _ w1 ⟨rfl, hb1⟩
  have i1 : In w.heap.size w w1 := In.step (by (repeat (first | exact In.refl _ | assumption | apply In.alloc | apply In.drewN | apply In.drew | (refine In.step ?_ (by assumption))))) hb1
  clear hb1 hr
  go_wp2_with (first | (go_at_call 24; refine (iIn _ _ _ _).mono ?_; rintro e w' ⟨rfl, rfl⟩) | go_in | (go_end0; simp only []; go_at_K))
  clear h0 h2 h0' hb
  go_loopw [5, 18] (fun s i wr => ∃ k : Nat, k ≤ n ∧ i = .int .i64 k ∧ s = .int .i64 (sumTo (rG xs) k) ∧ readyV n xs p = firstIx (readyP xs p) (n - k) k ∧ In w.heap.size w wr) (fun _ i _ => n - (intOf i).toNat)
  case atStart => exact ⟨0, Nat.zero_le _, rfl, rfl, HV.out, i1⟩
  case round =>
    clear i1
    obtain ⟨k, hk, rfl, rfl, hv, hi⟩ := hrel
    have HD := Lib.hid hv
    clear hv
    obtain ⟨s1, s2⟩ := sumTo_bd (rG xs) 16 k fun i hi => HR.out i (by omega)
    by_cases hlt : k < n
    · obtain ⟨a, rfl, ha⟩ := (hx.below hi.below (Nat.le_refl _)).2 k hlt
      have HU := Lib.hid (sumTo_succ (rG xs) k)
      have HG : Hid (rG xs k = speedV (xs.getD k 0)) := Lib.hid rfl
      have HS : Hid (firstIx (readyP xs p) (n - k) k = if readyP xs p k = true then (k : Int) else firstIx (readyP xs p) (n - (k + 1)) (k + 1)) := Lib.hid (by rw [show n - k = (n - (k + 1)) + 1 from by omega]; rfl)
      have HP : Hid (readyP xs p k = decide (p ≤ sumTo (rG xs) (k + 1))) := Lib.hid rfl
      generalize xs.getD k 0 = y at ha HG
      obtain ⟨q1, q2⟩ := speed_in y
      by_cases hs : p ≤ sumTo (rG xs) k + speedV y
      · have HT : Hid (readyP xs p k = true) := Lib.hid (by rw [HP.out, HU.out, HG.out]; simpa using hs)
        go_wp2_with fail
        refine (iSpeedAt y _ (HBN.out.in_ (by (repeat (first | exact In.refl _ | assumption | apply In.alloc | apply In.drewN | apply In.drew | (refine In.step ?_ (by assumption))))))).mono ?_
        rintro _ w1 ⟨rfl, hb1⟩
        go_wp2
        go_ret
        exact Val.mk' (v_int (by rw [HD.out, HS.out, if_pos HT.out])) (by (repeat (first | exact In.refl _ | assumption | apply In.alloc | apply In.drewN | apply In.drew | (refine In.step ?_ (by assumption)))))
      · have HT : Hid (readyP xs p k = false) := Lib.hid (by rw [HP.out, HU.out, HG.out]; simp; omega)
        have hs' : sumTo (rG xs) k + speedV y < p := by omega
        go_wp2_with fail
        refine (iSpeedAt y _ (HBN.out.in_ (by (repeat (first | exact In.refl _ | assumption | apply In.alloc | apply In.drewN | apply In.drew | (refine In.step ?_ (by assumption))))))).mono ?_
        rintro _ w1 ⟨rfl, hb1⟩
        go_wp2
        go_roundw
        case rel => exact ⟨k + 1, by omega, by go_num, v_int (by rw [HU.out, HG.out]), by rw [HD.out, HS.out, HT.out]; simp, by (repeat (first | exact In.refl _ | assumption | apply In.alloc | apply In.drewN | apply In.drew | (refine In.step ?_ (by assumption))))⟩
        case measure => simp [intOf]; omega
    · obtain rfl : k = n := by omega
      have HE : Hid (firstIx (readyP xs p) (k - k) k = -1) := Lib.hid (by rw [Nat.sub_self]; rfl)
      go_wp2
      go_ret
      exact Val.mk' (v_int (by rw [HD.out, HE.out])) (by (repeat (first | exact In.refl _ | assumption | apply In.alloc | apply In.drewN | apply In.drew | (refine In.step ?_ (by assumption)))))
end Go.Proofs.YtkaaebpoljnbnaaDoor
