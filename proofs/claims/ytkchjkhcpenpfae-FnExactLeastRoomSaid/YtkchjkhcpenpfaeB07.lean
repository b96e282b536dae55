/- Chapter 7: BatchesOk, OvenTime, EmptyPlaces. -/
import Derived.Test.YtkchjkhcpenpfaeC07
import Derived.Test.YtkchjkhcpenpfaeSBatch
import Derived.Test.YtkchjkhcpenpfaeSum
import Derived.Deep.QuietTactic
import Derived.BigQuiet
import Derived.Deep.RegionHeld3
namespace Go.Proofs.Ytkchjkhcpenpfae
open Go.ChangeShapes Go.WideShapes Go.ChangeAt Go.RowKit
set_option linter.unusedVariables false
set_option linter.unusedSimpArgs false

def batB (a b : Int) : Bool := inB a 1 500 && inB b 1 200
def bOk (xs : List BatchR) (i : Nat) : Bool := batB (xs.getD i ⟨0, 0⟩).f0 (xs.getD i ⟨0, 0⟩).f1
def batsB (n : Nat) (xs : List BatchR) : Bool := decide (n ≤ 10) && allOk (bOk xs) n
theorem bats_f {n : Nat} {xs : List BatchR} (k : Nat) (hk : k < n) (h : bOk xs k = false) : batsB n xs = false := by simp [batsB, allOk_f _ _ k hk h]
theorem bats_n {n : Nat} {xs : List BatchR} (h : ∀ i, i < n → bOk xs i = true) : batsB n xs = decide (n ≤ 10) := by simp [batsB, allOk_t _ _ h]
theorem bats_at {n : Nat} {xs : List BatchR} (h : batsB n xs = true) : n ≤ 10 ∧ ∀ i, i < n → batB (xs.getD i ⟨0, 0⟩).f0 (xs.getD i ⟨0, 0⟩).f1 = true := by
  simp only [batsB, Bool.and_eq_true, decide_eq_true_eq] at h
  exact ⟨h.1, fun i hi => allOk_at _ _ h.2 i hi⟩
theorem bat_in {a b : Int} (h : batB a b = true) : 1 ≤ a ∧ a ≤ 500 ∧ 1 ≤ b ∧ b ≤ 200 := by
  simp only [batB, Bool.and_eq_true] at h
  have h1 := inB_tt h.1
  have h2 := inB_tt h.2
  omega
theorem s07Ok (a b : Int) (w : World) : Calls Try.prog 36 #[.agg #[.int .i64 a, .int .i64 b]] w (Val (.bool (batB a b)) w) := by
  cases h1 : inB a 1 500 <;> cases h2 : inB b 1 200
  all_goals
    go_enter Try.func36, Try.ntmps36
    go_wp2_with (first | (go_at_call 38; refine (sIn _ _ _ _).mono ?_; rintro e w' ⟨rfl, rfl⟩) | (go_at_call 30; refine (iIn _ _ _ _).mono ?_; rintro e w' ⟨rfl, rfl⟩) | go_in | (go_end0; simp only []; go_at_K))
    go_ret
    exact Val.mk' (v_bool (by simp [batB, h1, h2])) (by (repeat (first | exact In.refl _ | assumption | apply In.alloc | apply In.drewN | apply In.drew | (refine In.step ?_ (by assumption)))))
theorem ibad (a b : Int) (w : World) : Calls Try.prog 31 #[.agg #[.int .i64 a, .int .i64 b]] w (Val (.bool (!batB a b)) w) := by
  cases h1 : inB a 1 500 <;> cases h2 : inB b 1 200
  all_goals
    go_enter Try.func31, Try.ntmps31
    go_wp2_with (first | (go_at_call 38; refine (sIn _ _ _ _).mono ?_; rintro e w' ⟨rfl, rfl⟩) | (go_at_call 30; refine (iIn _ _ _ _).mono ?_; rintro e w' ⟨rfl, rfl⟩) | go_in | (go_end0; simp only []; go_at_K))
    go_ret
    exact Val.mk' (v_bool (by simp [batB, h1, h2])) (by (repeat (first | exact In.refl _ | assumption | apply In.alloc | apply In.drewN | apply In.drew | (refine In.step ?_ (by assumption)))))
theorem iroom (n : Int) (w : World) : Calls Try.prog 29 #[.int .i64 n] w (Same (.bool (inB n 1 500)) w) := by
  go_enter Try.func29, Try.ntmps29
  go_wp2_with (first | (go_at_call 38; refine (sIn _ _ _ _).mono ?_; rintro e w' ⟨rfl, rfl⟩) | (go_at_call 30; refine (iIn _ _ _ _).mono ?_; rintro e w' ⟨rfl, rfl⟩) | go_in | (go_end0; simp only []; go_at_K))
  go_ret
  exact ⟨rfl, rfl⟩
set_option maxHeartbeats 1000000 in
theorem sBatchesOk (A : Option Addr) (n c : Nat) (xs : List BatchR) (w : World) (hn : n ≤ maxLen) (hx : ReadsBatch w A n xs) : Calls Try.prog 19 #[.slice A n c] w (Val (.bool (batsB n xs)) w) := by
  unfold maxLen at hn
  go_enter Try.func19, Try.ntmps19
  go_wp2
  go_loopw [3] (fun i wr => ∃ k : Nat, k ≤ n ∧ i = .int .i64 k ∧ (∀ i, i < k → bOk xs i = true) ∧ In w.heap.size w wr) (fun i _ => n - (intOf i).toNat)
  case atStart => exact ⟨0, Nat.zero_le _, rfl, fun i hi => absurd hi (Nat.not_lt_zero _), by (repeat (first | exact In.refl _ | assumption | apply In.alloc | apply In.drewN | apply In.drew | (refine In.step ?_ (by assumption))))⟩
  case round =>
    obtain ⟨k, hk, rfl, ho, hi⟩ := hrel
    have HO := Lib.hid ho
    clear ho
    by_cases hlt : k < n
    · obtain ⟨a, rfl, ha0, ha1⟩ := (hx.in_ hi).2 k hlt
      have HK : Hid (bOk xs k = batB (xs.getD k ⟨0, 0⟩).f0 (xs.getD k ⟨0, 0⟩).f1) := Lib.hid rfl
      generalize xs.getD k ⟨0, 0⟩ = x at ha0 ha1 HK
      obtain ⟨x0, x1⟩ := x
      simp only at ha0 ha1
      cases h1 : batB x0 x1
      · have HF : Hid (batsB n xs = false) := Lib.hid (bats_f k hlt (by rw [HK.out]; exact h1))
        go_wp2_with fail
        refine (s07Ok x0 x1 _).mono ?_
        rintro _ w1 ⟨rfl, hb1⟩
        rw [h1]
        go_wp2
        go_ret
        exact Val.mk' (v_bool HF.out.symm) (by (repeat (first | exact In.refl _ | assumption | apply In.alloc | apply In.drewN | apply In.drew | (refine In.step ?_ (by assumption)))))
      have HT : Hid (bOk xs k = true) := Lib.hid (by rw [HK.out]; exact h1)
      go_wp2_with fail
      refine (s07Ok x0 x1 _).mono ?_
      rintro _ w1 ⟨rfl, hb1⟩
      rw [h1]
      go_wp2
      go_roundw
      case rel => exact ⟨k + 1, by omega, by go_num, fun i hi => by
            by_cases e : i = k
            · subst e; exact HT.out
            · exact HO.out i (by omega), by (repeat (first | exact In.refl _ | assumption | apply In.alloc | apply In.drewN | apply In.drew | (refine In.step ?_ (by assumption))))⟩
      case measure => simp [intOf]; omega
    · obtain rfl : k = n := by omega
      go_wp2
      go_ret
      exact Val.mk' (v_bool (by rw [bats_n HO.out]; simp; omega)) (by (repeat (first | exact In.refl _ | assumption | apply In.alloc | apply In.drewN | apply In.drew | (refine In.step ?_ (by assumption)))))
/-- the first bad one, or -1 -/
def Bad (xs : List BatchR) (n : Nat) (w : World) (e : Ending) (w' : World) : Prop := ∃ r : Int, e = .returned (.int .i64 r) ∧ -1 ≤ r ∧ r ≤ 20000000 ∧ (r < 0 ↔ allOk (bOk xs) n = true) ∧ Below w.heap.size w w'
set_option maxHeartbeats 1000000 in
theorem iIndex (A : Option Addr) (n c : Nat) (xs : List BatchR) (w : World) (hn : n ≤ 10000000) (hx : ReadsBatch w A n xs) :
    Calls Try.prog 43 #[.slice A n c, .func (Fn.func 31) #[] #[]] w (Bad xs n w) := by
  go_enter Try.func43, Try.ntmps43
  go_wp2
  go_loopw [8] (fun i wr => ∃ k : Nat, k ≤ n ∧ i = .int .i64 k ∧ (∀ i, i < k → bOk xs i = true) ∧ In w.heap.size w wr) (fun i _ => n - (intOf i).toNat)
  case atStart => exact ⟨0, Nat.zero_le _, rfl, fun i hi => absurd hi (Nat.not_lt_zero _), by (repeat (first | exact In.refl _ | assumption | apply In.alloc | apply In.drewN | apply In.drew | (refine In.step ?_ (by assumption))))⟩
  case round =>
    obtain ⟨k, hk, rfl, ho, hi⟩ := hrel
    have HO := Lib.hid ho
    clear ho
    by_cases hlt : k < n
    · obtain ⟨a, rfl, ha0, ha1⟩ := (hx.in_ hi).2 k hlt
      have HK : Hid (bOk xs k = batB (xs.getD k ⟨0, 0⟩).f0 (xs.getD k ⟨0, 0⟩).f1) := Lib.hid rfl
      generalize xs.getD k ⟨0, 0⟩ = x at ha0 ha1 HK
      obtain ⟨x0, x1⟩ := x
      simp only at ha0 ha1
      cases h1 : batB x0 x1
      · have HF : Hid (allOk (bOk xs) n = false) := Lib.hid (allOk_f _ _ k hlt (by rw [HK.out]; exact h1))
        go_wp2_with fail
        refine (ibad x0 x1 _).mono ?_
        rintro _ w1 ⟨rfl, hb1⟩
        rw [h1]
        go_wp2
        go_ret
        exact ⟨k, rfl, by omega, by omega, by rw [HF.out]; simp, In.below (by (repeat (first | exact In.refl _ | assumption | apply In.alloc | apply In.drewN | apply In.drew | (refine In.step ?_ (by assumption)))))⟩
      have HT : Hid (bOk xs k = true) := Lib.hid (by rw [HK.out]; exact h1)
      go_wp2_with fail
      refine (ibad x0 x1 _).mono ?_
      rintro _ w1 ⟨rfl, hb1⟩
      rw [h1]
      go_wp2
      go_roundw
      case rel => exact ⟨k + 1, by omega, by go_num, fun i hi => by
            by_cases e : i = k
            · subst e; exact HT.out
            · exact HO.out i (by omega), by (repeat (first | exact In.refl _ | assumption | apply In.alloc | apply In.drewN | apply In.drew | (refine In.step ?_ (by assumption))))⟩
      case measure => simp [intOf]; omega
    · obtain rfl : k = n := by omega
      go_wp2
      go_ret
      exact ⟨-1, rfl, by omega, by omega, by rw [allOk_t _ _ HO.out]; simp, In.below (by (repeat (first | exact In.refl _ | assumption | apply In.alloc | apply In.drewN | apply In.drew | (refine In.step ?_ (by assumption)))))⟩
theorem iBatchesOk (A : Option Addr) (n c : Nat) (xs : List BatchR) (w : World) (hn : n ≤ maxLen) (hx : ReadsBatch w A n xs) : Calls Try.prog 17 #[.slice A n c] w (Val (.bool (batsB n xs)) w) := by
  unfold maxLen at hn
  by_cases h10 : n ≤ 10
  · go_enter Try.func17, Try.ntmps17
    go_wp2_with (first | (go_at_call 43; refine (iIndex A n c xs _ (by omega) hx).mono ?_; rintro _ w1 ⟨r, rfl, h1, h2, h3, hb1⟩) | go_in)
    all_goals
      go_ret
      refine Val.mk' (v_bool ?_) (by (repeat (first | exact In.refl _ | assumption | apply In.alloc | apply In.drewN | apply In.drew | (refine In.step ?_ (by assumption)))))
      cases e : allOk (bOk xs) n <;> simp_all [batsB] <;> omega
  · have HF : Hid (batsB n xs = false) := Lib.hid (by simp [batsB, h10])
    have h10' : 10 < n := by omega
    go_enter Try.func17, Try.ntmps17
    go_wp2
    go_ret
    exact Val.mk' (v_bool HF.out.symm) (by (repeat (first | exact In.refl _ | assumption | apply In.alloc | apply In.drewN | apply In.drew | (refine In.step ?_ (by assumption)))))
theorem loads_in {l m r : Int} (h : batB l m = true) (hr : inB r 1 500 = true) : 1 ≤ loadsV l m r ∧ loadsV l m r ≤ 500 ∧ l ≤ loadsV l m r * r ∧ loadsV l m r * r ≤ l + r - 1 := by
  obtain ⟨h1, h2, h3, h4⟩ := bat_in h
  have h5 := inB_tt hr
  simp only [batB, Bool.and_eq_true] at h
  rw [loadsV, h.1, h.2, hr]
  simp only [Bool.and_self, if_true]
  have h6 := Int.ediv_mul_le (l + r - 1) (b := r) (by omega)
  have h7 : l + r - 1 < ((l + r - 1) / r + 1) * r := Int.lt_ediv_add_one_mul_self (l + r - 1) (by omega)
  rw [Int.add_mul] at h7
  have h8 : (1 : Int) ≤ (l + r - 1) / r := Int.le_ediv_of_mul_le (by omega) (by omega)
  have h9 : (l + r - 1) / r ≤ l := by
    apply Int.ediv_le_of_le_mul (by omega)
    have : l * r = l + l * (r - 1) := by rw [Int.mul_sub]; omega
    have : (r - 1) ≤ l * (r - 1) := by
      have := Int.mul_le_mul_of_nonneg_right h1 (show 0 ≤ r - 1 by omega)
      omega
    omega
  omega
def ovG (xs : List BatchR) (r l : Int) (i : Nat) : Int := loadsV (xs.getD i ⟨0, 0⟩).f0 (xs.getD i ⟨0, 0⟩).f1 r * ((xs.getD i ⟨0, 0⟩).f1 + l)
def ovenV (n : Nat) (xs : List BatchR) (r l : Int) : Int := if batsB n xs && inB r 1 500 && inB l 0 60 then sumTo (ovG xs r l) n else -1
theorem ovG_in (xs : List BatchR) (r l : Int) (i : Nat) (h : batB (xs.getD i ⟨0, 0⟩).f0 (xs.getD i ⟨0, 0⟩).f1 = true) (hr : inB r 1 500 = true) (hl : inB l 0 60 = true) : 0 ≤ ovG xs r l i ∧ ovG xs r l i ≤ 130000 := by
  have h1 := loads_in h hr
  have h2 := bat_in h
  have h3 := inB_tt hl
  have h5 : 0 ≤ (xs.getD i ⟨0, 0⟩).f1 + l ∧ (xs.getD i ⟨0, 0⟩).f1 + l ≤ 260 := by omega
  exact mul_in (by omega) h1.2.1 h5.1 h5.2
def emG (xs : List BatchR) (r : Int) (i : Nat) : Int := loadsV (xs.getD i ⟨0, 0⟩).f0 (xs.getD i ⟨0, 0⟩).f1 r * r - (xs.getD i ⟨0, 0⟩).f0
def emptyV (n : Nat) (xs : List BatchR) (r : Int) : Int := if batsB n xs && inB r 1 500 then sumTo (emG xs r) n else -1
theorem emG_in (xs : List BatchR) (r : Int) (i : Nat) (h : batB (xs.getD i ⟨0, 0⟩).f0 (xs.getD i ⟨0, 0⟩).f1 = true) (hr : inB r 1 500 = true) : 0 ≤ emG xs r i ∧ emG xs r i ≤ 130000 := by
  have h1 := loads_in h hr
  have h3 := inB_tt hr
  unfold emG; omega
theorem b3held {w w' : World} {p q : Addr} {x y : Value} (hi : In w.heap.size w w') (h0 : w.cell? p = some x) (h1 : w.cell? q = some y) :
    In w.heap.size w w' ∧ w'.cell? p = some x ∧ w'.cell? q = some y := ⟨hi, cell_in h0 hi, cell_in h1 hi⟩
theorem b3box {w w' : World} {g : Nat} {t : TypeId} {x y : Value} (hi : In w.heap.size w w') (hk : Blk w' g t #[x, y]) :
    In w.heap.size w w' ∧ Blk w' g t #[x, y] ∧ w'.cell? ⟨g, 0, none⟩ = some x ∧ w'.cell? ⟨g, 1, none⟩ = some y := ⟨hi, hk, hk.cell 0, hk.cell 1⟩
set_option maxHeartbeats 2000000 in
theorem sOvenTime (A : Option Addr) (n c : Nat) (xs : List BatchR) (r l : Int) (w : World) (hn : n ≤ maxLen) (hx : ReadsBatch w A n xs) : Calls Try.prog 24 #[.slice A n c, .int .i64 r, .int .i64 l] w (Val (i64 (ovenV n xs r l)) w) := by
  cases hB : batsB n xs
  · have HV : Hid (ovenV n xs r l = -1) := Lib.hid (by simp [ovenV, hB])
    go_enter Try.func24, Try.ntmps24
    go_wp2_with (first | (go_at_call 38; refine (sIn _ _ _ _).mono ?_; rintro e w' ⟨rfl, rfl⟩) | (go_at_call 30; refine (iIn _ _ _ _).mono ?_; rintro e w' ⟨rfl, rfl⟩) | (go_at_call 19; refine (sBatchesOk A n c xs _ hn hx).mono ?_; rintro _ w1 ⟨rfl, hb1⟩) | go_in | (go_end0; simp only []; go_at_K))
    go_ret
    exact Val.mk' (v_int HV.out.symm) (by (repeat (first | exact In.refl _ | assumption | apply In.alloc | apply In.drewN | apply In.drew | (refine In.step ?_ (by assumption)))))
  cases hR : inB r 1 500
  · have HV : Hid (ovenV n xs r l = -1) := Lib.hid (by simp [ovenV, hR])
    go_enter Try.func24, Try.ntmps24
    go_wp2_with (first | (go_at_call 38; refine (sIn _ _ _ _).mono ?_; rintro e w' ⟨rfl, rfl⟩) | (go_at_call 30; refine (iIn _ _ _ _).mono ?_; rintro e w' ⟨rfl, rfl⟩) | (go_at_call 19; refine (sBatchesOk A n c xs _ hn hx).mono ?_; rintro _ w1 ⟨rfl, hb1⟩) | go_in | (go_end0; simp only []; go_at_K))
    go_ret
    exact Val.mk' (v_int HV.out.symm) (by (repeat (first | exact In.refl _ | assumption | apply In.alloc | apply In.drewN | apply In.drew | (refine In.step ?_ (by assumption)))))
  cases hL : inB l 0 60
  · have HV : Hid (ovenV n xs r l = -1) := Lib.hid (by simp [ovenV, hL])
    go_enter Try.func24, Try.ntmps24
    go_wp2_with (first | (go_at_call 38; refine (sIn _ _ _ _).mono ?_; rintro e w' ⟨rfl, rfl⟩) | (go_at_call 30; refine (iIn _ _ _ _).mono ?_; rintro e w' ⟨rfl, rfl⟩) | (go_at_call 19; refine (sBatchesOk A n c xs _ hn hx).mono ?_; rintro _ w1 ⟨rfl, hb1⟩) | go_in | (go_end0; simp only []; go_at_K))
    go_ret
    exact Val.mk' (v_int HV.out.symm) (by (repeat (first | exact In.refl _ | assumption | apply In.alloc | apply In.drewN | apply In.drew | (refine In.step ?_ (by assumption)))))
  have HV : Hid (ovenV n xs r l = sumTo (ovG xs r l) n) := Lib.hid (by simp [ovenV, hB, hR, hL])
  obtain ⟨h12, hs⟩ := bats_at hB
  obtain ⟨r1, r2⟩ := inB_tt hR
  obtain ⟨l1, l2⟩ := inB_tt hL
  have HLL := Lib.hid hL
  have HS := Lib.hid hs
  have HRR := Lib.hid hR
  clear hs
  go_enter Try.func24, Try.ntmps24
  go_wp2_with fail
  refine (sBatchesOk A n c xs _ hn hx).mono ?_
  rintro _ w1 ⟨rfl, hb1⟩
  have i1 : In w.heap.size w w1 := In.step (by (repeat (first | exact In.refl _ | assumption | apply In.alloc | apply In.drewN | apply In.drew | (refine In.step ?_ (by assumption))))) hb1
  clear hb1
  go_wp2_with (first | (go_at_call 38; refine (sIn _ _ _ _).mono ?_; rintro e w' ⟨rfl, rfl⟩) | (go_at_call 30; refine (iIn _ _ _ _).mono ?_; rintro e w' ⟨rfl, rfl⟩) | (go_at_call 19; refine (sBatchesOk A n c xs _ hn hx).mono ?_; rintro _ w1 ⟨rfl, hb1⟩) | go_in | (go_end0; simp only []; go_at_K))
  clear hB hR hL
  go_loopw [7, 8] (fun s i wr => ∃ k : Nat, k ≤ n ∧ i = .int .i64 k ∧ s = .int .i64 (sumTo (ovG xs r l) k) ∧ In w.heap.size w wr) (fun _ i _ => n - (intOf i).toNat)
  case atStart => exact ⟨0, Nat.zero_le _, rfl, rfl, i1⟩
  case round =>
    clear i1
    obtain ⟨k, hk, rfl, rfl, hi⟩ := hrel
    by_cases hlt : k < n
    · obtain ⟨a, rfl, ha0, ha1⟩ := hx.2 k hlt
      have HU := Lib.hid (sumTo_succ (ovG xs r l) k)
      obtain ⟨d1, d2⟩ := sumTo_bd (ovG xs r l) 130000 k fun i hi => ovG_in xs r l i (HS.out i (by omega)) HRR.out HLL.out
      have HB := Lib.hid (HS.out k hlt)
      have HG : Hid (ovG xs r l k = loadsV (xs.getD k ⟨0, 0⟩).f0 (xs.getD k ⟨0, 0⟩).f1 r * ((xs.getD k ⟨0, 0⟩).f1 + l)) := Lib.hid rfl
      generalize xs.getD k ⟨0, 0⟩ = x at ha0 ha1 HG HB
      obtain ⟨x0, x1⟩ := x
      simp only at ha0 ha1
      have hbb : batB x0 x1 = true := HB.out
      have HG2 : Hid (ovG xs r l k = loadsV x0 x1 r * (x1 + l)) := Lib.hid HG.out
      obtain ⟨c1, c2, c3, c4⟩ := bat_in hbb
      obtain ⟨f1, f2, f3, f4⟩ := loads_in hbb HRR.out
      clear hbb
      obtain ⟨p1, p2⟩ := mul_in (by omega : 0 ≤ loadsV x0 x1 r) f2 (by omega : 0 ≤ x1 + l) (by omega : x1 + l ≤ 260)
      have W0 : IntKind.i64.wrap (x1 + l) = x1 + l := IntWalk.i64_in _ (by omega)
      have W1 : IntKind.i64.wrap (loadsV x0 x1 r * (x1 + l)) = loadsV x0 x1 r * (x1 + l) := IntWalk.i64_in _ (by omega)
      have W2 : IntKind.i64.wrap (sumTo (ovG xs r l) k + loadsV x0 x1 r * (x1 + l)) = sumTo (ovG xs r l) k + loadsV x0 x1 r * (x1 + l) := IntWalk.i64_in _ (by omega)
      have A0 := Lib.hid ha0
      have A1 := Lib.hid ha1
      have e0 := cell_in ha0 hi
      have e1 := cell_in ha1 hi
      clear ha0 ha1
      go_wp2
      go_region_held3 (fun w' => In w.heap.size w w' ∧ w'.cell? (a.add (k * 2)) = some (.int .i64 x0) ∧ w'.cell? ⟨(a.add (k * 2)).block, (a.add (k * 2)).off + 1, none⟩ = some (.int .i64 x1))
        (first | assumption | exact b3held (In.step (And.left (by assumption)) hb1) A0.out A1.out | exact b3held (by (repeat (first | exact In.refl _ | assumption | apply In.alloc | apply In.drewN | apply In.drew | (refine In.step ?_ (by assumption))))) A0.out A1.out)
        (first | (go_at_call 22; ((with_reducible refine (sLoadsOf x0 x1 r _).mono ?_); rintro e w1 ⟨rfl, hb1⟩)))
      obtain ⟨i3, hz⟩ := ‹In w.heap.size w _ ∧ _›
      clear hz
      go_wp2
      go_roundw
      case rel => exact ⟨k + 1, by omega, by go_num, v_int (by rw [HU.out, HG2.out]; (try simp only [W0, W1, W2]); (try omega)), by (repeat (first | exact In.refl _ | assumption | apply In.alloc | apply In.drewN | apply In.drew | (refine In.step ?_ (by assumption))))⟩
      case measure => simp [intOf]; omega
    · obtain rfl : k = n := by omega
      go_wp2
      go_ret
      exact Val.mk' (v_int HV.out.symm) (by (repeat (first | exact In.refl _ | assumption | apply In.alloc | apply In.drewN | apply In.drew | (refine In.step ?_ (by assumption)))))
set_option maxHeartbeats 2000000 in
theorem iOvenTime (A : Option Addr) (n c : Nat) (xs : List BatchR) (r l : Int) (w : World) (hn : n ≤ maxLen) (hx : ReadsBatch w A n xs) : Calls Try.prog 12 #[.slice A n c, .int .i64 r, .int .i64 l] w (Val (i64 (ovenV n xs r l)) w) := by
  cases hB : batsB n xs
  · have HV : Hid (ovenV n xs r l = -1) := Lib.hid (by simp [ovenV, hB])
    go_enter Try.func12, Try.ntmps12
    go_wp2_with (first | (go_at_call 38; refine (sIn _ _ _ _).mono ?_; rintro e w' ⟨rfl, rfl⟩) | (go_at_call 30; refine (iIn _ _ _ _).mono ?_; rintro e w' ⟨rfl, rfl⟩) | (go_at_call 17; refine (iBatchesOk A n c xs _ hn hx).mono ?_; rintro _ w1 ⟨rfl, hb1⟩) | (go_at_call 29; refine (iroom _ _).mono ?_; rintro _ _ ⟨rfl, rfl⟩) | go_in | (go_end0; simp only []; go_at_K))
    go_ret
    exact Val.mk' (v_int HV.out.symm) (by (repeat (first | exact In.refl _ | assumption | apply In.alloc | apply In.drewN | apply In.drew | (refine In.step ?_ (by assumption)))))
  cases hR : inB r 1 500
  · have HV : Hid (ovenV n xs r l = -1) := Lib.hid (by simp [ovenV, hR])
    go_enter Try.func12, Try.ntmps12
    go_wp2_with (first | (go_at_call 38; refine (sIn _ _ _ _).mono ?_; rintro e w' ⟨rfl, rfl⟩) | (go_at_call 30; refine (iIn _ _ _ _).mono ?_; rintro e w' ⟨rfl, rfl⟩) | (go_at_call 17; refine (iBatchesOk A n c xs _ hn hx).mono ?_; rintro _ w1 ⟨rfl, hb1⟩) | (go_at_call 29; refine (iroom _ _).mono ?_; rintro _ _ ⟨rfl, rfl⟩) | go_in | (go_end0; simp only []; go_at_K))
    go_ret
    exact Val.mk' (v_int HV.out.symm) (by (repeat (first | exact In.refl _ | assumption | apply In.alloc | apply In.drewN | apply In.drew | (refine In.step ?_ (by assumption)))))
  cases hL : inB l 0 60
  · have HV : Hid (ovenV n xs r l = -1) := Lib.hid (by simp [ovenV, hL])
    go_enter Try.func12, Try.ntmps12
    go_wp2_with (first | (go_at_call 38; refine (sIn _ _ _ _).mono ?_; rintro e w' ⟨rfl, rfl⟩) | (go_at_call 30; refine (iIn _ _ _ _).mono ?_; rintro e w' ⟨rfl, rfl⟩) | (go_at_call 17; refine (iBatchesOk A n c xs _ hn hx).mono ?_; rintro _ w1 ⟨rfl, hb1⟩) | (go_at_call 29; refine (iroom _ _).mono ?_; rintro _ _ ⟨rfl, rfl⟩) | go_in | (go_end0; simp only []; go_at_K))
    go_ret
    exact Val.mk' (v_int HV.out.symm) (by (repeat (first | exact In.refl _ | assumption | apply In.alloc | apply In.drewN | apply In.drew | (refine In.step ?_ (by assumption)))))
  have HV : Hid (ovenV n xs r l = sumTo (ovG xs r l) n) := Lib.hid (by simp [ovenV, hB, hR, hL])
  obtain ⟨h12, hs⟩ := bats_at hB
  obtain ⟨r1, r2⟩ := inB_tt hR
  obtain ⟨l1, l2⟩ := inB_tt hL
  have HLL := Lib.hid hL
  have HS := Lib.hid hs
  have HRR := Lib.hid hR
  clear hs
  go_enter Try.func12, Try.ntmps12
  go_wp2_with fail
  refine (iBatchesOk A n c xs _ hn hx).mono ?_
  rintro _ w1 ⟨rfl, hb1⟩
  have i1 : In w.heap.size w w1 := In.step (by (repeat (first | exact In.refl _ | assumption | apply In.alloc | apply In.drewN | apply In.drew | (refine In.step ?_ (by assumption))))) hb1
  clear hb1
  go_wp2_with (first | (go_at_call 38; refine (sIn _ _ _ _).mono ?_; rintro e w' ⟨rfl, rfl⟩) | (go_at_call 30; refine (iIn _ _ _ _).mono ?_; rintro e w' ⟨rfl, rfl⟩) | (go_at_call 17; refine (iBatchesOk A n c xs _ hn hx).mono ?_; rintro _ w1 ⟨rfl, hb1⟩) | (go_at_call 29; refine (iroom _ _).mono ?_; rintro _ _ ⟨rfl, rfl⟩) | go_in | (go_end0; simp only []; go_at_K))
  clear hB hR hL
  go_loopw [7, 25] (fun s i wr => ∃ k : Nat, k ≤ n ∧ i = .int .i64 k ∧ s = .int .i64 (sumTo (ovG xs r l) k) ∧ In w.heap.size w wr) (fun _ i _ => n - (intOf i).toNat)
  case atStart => exact ⟨0, Nat.zero_le _, rfl, rfl, i1⟩
  case round =>
    clear i1
    obtain ⟨k, hk, rfl, rfl, hi⟩ := hrel
    by_cases hlt : k < n
    · obtain ⟨a, rfl, ha0, ha1⟩ := hx.2 k hlt
      have HU := Lib.hid (sumTo_succ (ovG xs r l) k)
      obtain ⟨d1, d2⟩ := sumTo_bd (ovG xs r l) 130000 k fun i hi => ovG_in xs r l i (HS.out i (by omega)) HRR.out HLL.out
      have HB := Lib.hid (HS.out k hlt)
      have HG : Hid (ovG xs r l k = loadsV (xs.getD k ⟨0, 0⟩).f0 (xs.getD k ⟨0, 0⟩).f1 r * ((xs.getD k ⟨0, 0⟩).f1 + l)) := Lib.hid rfl
      generalize xs.getD k ⟨0, 0⟩ = x at ha0 ha1 HG HB
      obtain ⟨x0, x1⟩ := x
      simp only at ha0 ha1
      have hbb : batB x0 x1 = true := HB.out
      have HG2 : Hid (ovG xs r l k = loadsV x0 x1 r * (x1 + l)) := Lib.hid HG.out
      obtain ⟨c1, c2, c3, c4⟩ := bat_in hbb
      obtain ⟨f1, f2, f3, f4⟩ := loads_in hbb HRR.out
      clear hbb
      obtain ⟨p1, p2⟩ := mul_in (by omega : 0 ≤ loadsV x0 x1 r) f2 (by omega : 0 ≤ x1 + l) (by omega : x1 + l ≤ 260)
      have W0 : IntKind.i64.wrap (x1 + l) = x1 + l := IntWalk.i64_in _ (by omega)
      have W1 : IntKind.i64.wrap (loadsV x0 x1 r * (x1 + l)) = loadsV x0 x1 r * (x1 + l) := IntWalk.i64_in _ (by omega)
      have W2 : IntKind.i64.wrap (sumTo (ovG xs r l) k + loadsV x0 x1 r * (x1 + l)) = sumTo (ovG xs r l) k + loadsV x0 x1 r * (x1 + l) := IntWalk.i64_in _ (by omega)
      have A0 := Lib.hid ha0
      have A1 := Lib.hid ha1
      have e0 := cell_in ha0 hi
      have e1 := cell_in ha1 hi
      clear ha0 ha1
      have kb := Blk.new wr 31 #[.int .i64 x0, .int .i64 x1]
      go_wp2
      go_region_held3 (fun w' => In w.heap.size w w' ∧ Blk w' wr.heap.size 31 #[.int .i64 x0, .int .i64 x1] ∧ w'.cell? ⟨wr.heap.size, 0, none⟩ = some (.int .i64 x0) ∧ w'.cell? ⟨wr.heap.size, 1, none⟩ = some (.int .i64 x1))
        (first | assumption | exact b3box (In.step (And.left (by assumption)) hb1) (Blk.step (And.left (And.right (by assumption))) hb1) | exact b3box (by (repeat (first | exact In.refl _ | assumption | apply In.alloc | apply In.drewN | apply In.drew | (refine In.step ?_ (by assumption))))) (by (with_reducible (repeat (first | assumption | apply Blk.drewN | apply Blk.drew | apply Blk.alloc)))))
        (first | (go_at_call 15; ((with_reducible refine (iLoadsOf x0 x1 r _).mono ?_); rintro e w1 ⟨rfl, hb1⟩)))
      obtain ⟨i3, hz⟩ := ‹In w.heap.size w _ ∧ _›
      clear hz
      go_wp2
      go_roundw
      case rel => exact ⟨k + 1, by omega, by go_num, v_int (by rw [HU.out, HG2.out]; (try simp only [W0, W1, W2]); (try omega)), by (repeat (first | exact In.refl _ | assumption | apply In.alloc | apply In.drewN | apply In.drew | (refine In.step ?_ (by assumption))))⟩
      case measure => simp [intOf]; omega
    · obtain rfl : k = n := by omega
      go_wp2
      go_ret
      exact Val.mk' (v_int HV.out.symm) (by (repeat (first | exact In.refl _ | assumption | apply In.alloc | apply In.drewN | apply In.drew | (refine In.step ?_ (by assumption)))))
set_option maxHeartbeats 2000000 in
theorem sEmptyPlaces (A : Option Addr) (n c : Nat) (xs : List BatchR) (r : Int) (w : World) (hn : n ≤ maxLen) (hx : ReadsBatch w A n xs) : Calls Try.prog 26 #[.slice A n c, .int .i64 r] w (Val (i64 (emptyV n xs r)) w) := by
  cases hB : batsB n xs
  · have HV : Hid (emptyV n xs r = -1) := Lib.hid (by simp [emptyV, hB])
    go_enter Try.func26, Try.ntmps26
    go_wp2_with (first | (go_at_call 38; refine (sIn _ _ _ _).mono ?_; rintro e w' ⟨rfl, rfl⟩) | (go_at_call 30; refine (iIn _ _ _ _).mono ?_; rintro e w' ⟨rfl, rfl⟩) | (go_at_call 19; refine (sBatchesOk A n c xs _ hn hx).mono ?_; rintro _ w1 ⟨rfl, hb1⟩) | go_in | (go_end0; simp only []; go_at_K))
    go_ret
    exact Val.mk' (v_int HV.out.symm) (by (repeat (first | exact In.refl _ | assumption | apply In.alloc | apply In.drewN | apply In.drew | (refine In.step ?_ (by assumption)))))
  cases hR : inB r 1 500
  · have HV : Hid (emptyV n xs r = -1) := Lib.hid (by simp [emptyV, hR])
    go_enter Try.func26, Try.ntmps26
    go_wp2_with (first | (go_at_call 38; refine (sIn _ _ _ _).mono ?_; rintro e w' ⟨rfl, rfl⟩) | (go_at_call 30; refine (iIn _ _ _ _).mono ?_; rintro e w' ⟨rfl, rfl⟩) | (go_at_call 19; refine (sBatchesOk A n c xs _ hn hx).mono ?_; rintro _ w1 ⟨rfl, hb1⟩) | go_in | (go_end0; simp only []; go_at_K))
    go_ret
    exact Val.mk' (v_int HV.out.symm) (by (repeat (first | exact In.refl _ | assumption | apply In.alloc | apply In.drewN | apply In.drew | (refine In.step ?_ (by assumption)))))
  have HV : Hid (emptyV n xs r = sumTo (emG xs r) n) := Lib.hid (by simp [emptyV, hB, hR])
  obtain ⟨h12, hs⟩ := bats_at hB
  obtain ⟨r1, r2⟩ := inB_tt hR
  have HS := Lib.hid hs
  have HRR := Lib.hid hR
  clear hs
  go_enter Try.func26, Try.ntmps26
  go_wp2_with fail
  refine (sBatchesOk A n c xs _ hn hx).mono ?_
  rintro _ w1 ⟨rfl, hb1⟩
  have i1 : In w.heap.size w w1 := In.step (by (repeat (first | exact In.refl _ | assumption | apply In.alloc | apply In.drewN | apply In.drew | (refine In.step ?_ (by assumption))))) hb1
  clear hb1
  go_wp2_with (first | (go_at_call 38; refine (sIn _ _ _ _).mono ?_; rintro e w' ⟨rfl, rfl⟩) | (go_at_call 30; refine (iIn _ _ _ _).mono ?_; rintro e w' ⟨rfl, rfl⟩) | (go_at_call 19; refine (sBatchesOk A n c xs _ hn hx).mono ?_; rintro _ w1 ⟨rfl, hb1⟩) | go_in | (go_end0; simp only []; go_at_K))
  clear hB hR
  go_loopw [5, 6] (fun s i wr => ∃ k : Nat, k ≤ n ∧ i = .int .i64 k ∧ s = .int .i64 (sumTo (emG xs r) k) ∧ In w.heap.size w wr) (fun _ i _ => n - (intOf i).toNat)
  case atStart => exact ⟨0, Nat.zero_le _, rfl, rfl, i1⟩
  case round =>
    clear i1
    obtain ⟨k, hk, rfl, rfl, hi⟩ := hrel
    by_cases hlt : k < n
    · obtain ⟨a, rfl, ha0, ha1⟩ := hx.2 k hlt
      have HU := Lib.hid (sumTo_succ (emG xs r) k)
      obtain ⟨d1, d2⟩ := sumTo_bd (emG xs r) 130000 k fun i hi => emG_in xs r i (HS.out i (by omega)) HRR.out
      have HB := Lib.hid (HS.out k hlt)
      have HG : Hid (emG xs r k = loadsV (xs.getD k ⟨0, 0⟩).f0 (xs.getD k ⟨0, 0⟩).f1 r * r - (xs.getD k ⟨0, 0⟩).f0) := Lib.hid rfl
      generalize xs.getD k ⟨0, 0⟩ = x at ha0 ha1 HG HB
      obtain ⟨x0, x1⟩ := x
      simp only at ha0 ha1
      have hbb : batB x0 x1 = true := HB.out
      have HG2 : Hid (emG xs r k = loadsV x0 x1 r * r - x0) := Lib.hid HG.out
      obtain ⟨c1, c2, c3, c4⟩ := bat_in hbb
      obtain ⟨f1, f2, f3, f4⟩ := loads_in hbb HRR.out
      clear hbb
      have W1 : IntKind.i64.wrap (loadsV x0 x1 r * r) = loadsV x0 x1 r * r := IntWalk.i64_in _ (by omega)
      have W2 : IntKind.i64.wrap (sumTo (emG xs r) k + loadsV x0 x1 r * r) = sumTo (emG xs r) k + loadsV x0 x1 r * r := IntWalk.i64_in _ (by omega)
      have W3 : IntKind.i64.wrap (sumTo (emG xs r) k + loadsV x0 x1 r * r - x0) = sumTo (emG xs r) k + loadsV x0 x1 r * r - x0 := IntWalk.i64_in _ (by omega)
      have A0 := Lib.hid ha0
      have A1 := Lib.hid ha1
      have e0 := cell_in ha0 hi
      have e1 := cell_in ha1 hi
      clear ha0 ha1
      go_wp2
      go_region_held3 (fun w' => In w.heap.size w w' ∧ w'.cell? (a.add (k * 2)) = some (.int .i64 x0) ∧ w'.cell? ⟨(a.add (k * 2)).block, (a.add (k * 2)).off + 1, none⟩ = some (.int .i64 x1))
        (first | assumption | exact b3held (In.step (And.left (by assumption)) hb1) A0.out A1.out | exact b3held (by (repeat (first | exact In.refl _ | assumption | apply In.alloc | apply In.drewN | apply In.drew | (refine In.step ?_ (by assumption))))) A0.out A1.out)
        (first | (go_at_call 22; ((with_reducible refine (sLoadsOf x0 x1 r _).mono ?_); rintro e w1 ⟨rfl, hb1⟩)))
      obtain ⟨i3, hz⟩ := ‹In w.heap.size w _ ∧ _›
      clear hz
      go_wp2
      go_roundw
      case rel => exact ⟨k + 1, by omega, by go_num, v_int (by rw [HU.out, HG2.out]; (try simp only [W1, W2, W3]); (try omega)), by (repeat (first | exact In.refl _ | assumption | apply In.alloc | apply In.drewN | apply In.drew | (refine In.step ?_ (by assumption))))⟩
      case measure => simp [intOf]; omega
    · obtain rfl : k = n := by omega
      go_wp2
      go_ret
      exact Val.mk' (v_int HV.out.symm) (by (repeat (first | exact In.refl _ | assumption | apply In.alloc | apply In.drewN | apply In.drew | (refine In.step ?_ (by assumption)))))
set_option maxHeartbeats 2000000 in
theorem iEmptyPlaces (A : Option Addr) (n c : Nat) (xs : List BatchR) (r : Int) (w : World) (hn : n ≤ maxLen) (hx : ReadsBatch w A n xs) : Calls Try.prog 14 #[.slice A n c, .int .i64 r] w (Val (i64 (emptyV n xs r)) w) := by
  cases hB : batsB n xs
  · have HV : Hid (emptyV n xs r = -1) := Lib.hid (by simp [emptyV, hB])
    go_enter Try.func14, Try.ntmps14
    go_wp2_with (first | (go_at_call 38; refine (sIn _ _ _ _).mono ?_; rintro e w' ⟨rfl, rfl⟩) | (go_at_call 30; refine (iIn _ _ _ _).mono ?_; rintro e w' ⟨rfl, rfl⟩) | (go_at_call 17; refine (iBatchesOk A n c xs _ hn hx).mono ?_; rintro _ w1 ⟨rfl, hb1⟩) | (go_at_call 29; refine (iroom _ _).mono ?_; rintro _ _ ⟨rfl, rfl⟩) | go_in | (go_end0; simp only []; go_at_K))
    go_ret
    exact Val.mk' (v_int HV.out.symm) (by (repeat (first | exact In.refl _ | assumption | apply In.alloc | apply In.drewN | apply In.drew | (refine In.step ?_ (by assumption)))))
  cases hR : inB r 1 500
  · have HV : Hid (emptyV n xs r = -1) := Lib.hid (by simp [emptyV, hR])
    go_enter Try.func14, Try.ntmps14
    go_wp2_with (first | (go_at_call 38; refine (sIn _ _ _ _).mono ?_; rintro e w' ⟨rfl, rfl⟩) | (go_at_call 30; refine (iIn _ _ _ _).mono ?_; rintro e w' ⟨rfl, rfl⟩) | (go_at_call 17; refine (iBatchesOk A n c xs _ hn hx).mono ?_; rintro _ w1 ⟨rfl, hb1⟩) | (go_at_call 29; refine (iroom _ _).mono ?_; rintro _ _ ⟨rfl, rfl⟩) | go_in | (go_end0; simp only []; go_at_K))
    go_ret
    exact Val.mk' (v_int HV.out.symm) (by (repeat (first | exact In.refl _ | assumption | apply In.alloc | apply In.drewN | apply In.drew | (refine In.step ?_ (by assumption)))))
  have HV : Hid (emptyV n xs r = sumTo (emG xs r) n) := Lib.hid (by simp [emptyV, hB, hR])
  obtain ⟨h12, hs⟩ := bats_at hB
  obtain ⟨r1, r2⟩ := inB_tt hR
  have HS := Lib.hid hs
  have HRR := Lib.hid hR
  clear hs
  go_enter Try.func14, Try.ntmps14
  go_wp2_with fail
  refine (iBatchesOk A n c xs _ hn hx).mono ?_
  rintro _ w1 ⟨rfl, hb1⟩
  have i1 : In w.heap.size w w1 := In.step (by (repeat (first | exact In.refl _ | assumption | apply In.alloc | apply In.drewN | apply In.drew | (refine In.step ?_ (by assumption))))) hb1
  clear hb1
  go_wp2_with (first | (go_at_call 38; refine (sIn _ _ _ _).mono ?_; rintro e w' ⟨rfl, rfl⟩) | (go_at_call 30; refine (iIn _ _ _ _).mono ?_; rintro e w' ⟨rfl, rfl⟩) | (go_at_call 17; refine (iBatchesOk A n c xs _ hn hx).mono ?_; rintro _ w1 ⟨rfl, hb1⟩) | (go_at_call 29; refine (iroom _ _).mono ?_; rintro _ _ ⟨rfl, rfl⟩) | go_in | (go_end0; simp only []; go_at_K))
  clear hB hR
  go_loopw [5, 18] (fun s i wr => ∃ k : Nat, k ≤ n ∧ i = .int .i64 k ∧ s = .int .i64 (sumTo (emG xs r) k) ∧ In w.heap.size w wr) (fun _ i _ => n - (intOf i).toNat)
  case atStart => exact ⟨0, Nat.zero_le _, rfl, rfl, i1⟩
  case round =>
    clear i1
    obtain ⟨k, hk, rfl, rfl, hi⟩ := hrel
    by_cases hlt : k < n
    · obtain ⟨a, rfl, ha0, ha1⟩ := hx.2 k hlt
      have HU := Lib.hid (sumTo_succ (emG xs r) k)
      obtain ⟨d1, d2⟩ := sumTo_bd (emG xs r) 130000 k fun i hi => emG_in xs r i (HS.out i (by omega)) HRR.out
      have HB := Lib.hid (HS.out k hlt)
      have HG : Hid (emG xs r k = loadsV (xs.getD k ⟨0, 0⟩).f0 (xs.getD k ⟨0, 0⟩).f1 r * r - (xs.getD k ⟨0, 0⟩).f0) := Lib.hid rfl
      generalize xs.getD k ⟨0, 0⟩ = x at ha0 ha1 HG HB
      obtain ⟨x0, x1⟩ := x
      simp only at ha0 ha1
      have hbb : batB x0 x1 = true := HB.out
      have HG2 : Hid (emG xs r k = loadsV x0 x1 r * r - x0) := Lib.hid HG.out
      obtain ⟨c1, c2, c3, c4⟩ := bat_in hbb
      obtain ⟨f1, f2, f3, f4⟩ := loads_in hbb HRR.out
      clear hbb
      have W1 : IntKind.i64.wrap (loadsV x0 x1 r * r) = loadsV x0 x1 r * r := IntWalk.i64_in _ (by omega)
      have W2 : IntKind.i64.wrap (loadsV x0 x1 r * r - x0) = loadsV x0 x1 r * r - x0 := IntWalk.i64_in _ (by omega)
      have W3 : IntKind.i64.wrap (sumTo (emG xs r) k + (loadsV x0 x1 r * r - x0)) = sumTo (emG xs r) k + (loadsV x0 x1 r * r - x0) := IntWalk.i64_in _ (by omega)
      have A0 := Lib.hid ha0
      have A1 := Lib.hid ha1
      have e0 := cell_in ha0 hi
      have e1 := cell_in ha1 hi
      clear ha0 ha1
      have kb := Blk.new wr 31 #[.int .i64 x0, .int .i64 x1]
      go_wp2
      go_region_held3 (fun w' => In w.heap.size w w' ∧ Blk w' wr.heap.size 31 #[.int .i64 x0, .int .i64 x1] ∧ w'.cell? ⟨wr.heap.size, 0, none⟩ = some (.int .i64 x0) ∧ w'.cell? ⟨wr.heap.size, 1, none⟩ = some (.int .i64 x1))
        (first | assumption | exact b3box (In.step (And.left (by assumption)) hb1) (Blk.step (And.left (And.right (by assumption))) hb1) | exact b3box (by (repeat (first | exact In.refl _ | assumption | apply In.alloc | apply In.drewN | apply In.drew | (refine In.step ?_ (by assumption))))) (by (with_reducible (repeat (first | assumption | apply Blk.drewN | apply Blk.drew | apply Blk.alloc)))))
        (first | (go_at_call 15; ((with_reducible refine (iLoadsOf x0 x1 r _).mono ?_); rintro e w1 ⟨rfl, hb1⟩)))
      obtain ⟨i3, hz⟩ := ‹In w.heap.size w _ ∧ _›
      clear hz
      go_wp2
      go_roundw
      case rel => exact ⟨k + 1, by omega, by go_num, v_int (by rw [HU.out, HG2.out]; (try simp only [W1, W2, W3]); (try omega)), by (repeat (first | exact In.refl _ | assumption | apply In.alloc | apply In.drewN | apply In.drew | (refine In.step ?_ (by assumption))))⟩
      case measure => simp [intOf]; omega
    · obtain rfl : k = n := by omega
      go_wp2
      go_ret
      exact Val.mk' (v_int HV.out.symm) (by (repeat (first | exact In.refl _ | assumption | apply In.alloc | apply In.drewN | apply In.drew | (refine In.step ?_ (by assumption)))))
end Go.Proofs.Ytkchjkhcpenpfae
