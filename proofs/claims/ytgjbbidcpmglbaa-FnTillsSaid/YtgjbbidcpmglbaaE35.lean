/- Chapter 35: TillAfter, LowestTill, LeastStart, MissingMoney. -/
import Derived.Test.YtgjbbidcpmglbaaC35
import Derived.Test.YtgjbbidcpmglbaaMapI
import Derived.Deep.QuietTactic
import Derived.BigQuiet
import Derived.IntWalk
namespace Go.Proofs.Ytgjbbidcpmglbaa
open Go.ChangeShapes Go.WideShapes Go.ChangeAt Go.RowKit
set_option linter.unusedVariables false
set_option linter.unusedSimpArgs false
set_option maxHeartbeats 2000000

theorem In.grow0 {B : Nat} {a w w' : World} (h : In B a w) (g : w.grownBy w' none) : In B a w' := ⟨h.below.grown g h.size (fun j hj => by cases hj), Nat.le_trans h.size g.size⟩
theorem In.growr {B r : Nat} {a w w' : World} (h : In B a w) (g : w.grownBy w' (some r)) (hr : B ≤ r) : In B a w' := ⟨h.below.grown g h.size (fun j hj => by cases hj; exact hr), Nat.le_trans h.size g.size⟩
def tillTo (xs : List SlipR) (st : Int) : Nat → Int
  | 0 => st
  | k + 1 => tillTo xs st k + (xs.getD k z35).f1 - (xs.getD k z35).f2
def lowTo (xs : List SlipR) (st : Int) : Nat → Int
  | 0 => st
  | k + 1 => min (lowTo xs st k) (tillTo xs st (k + 1))
theorem till_in {n : Nat} {xs : List SlipR} {st : Int} (h : cntB n xs st = true) (k : Nat) (hk : k ≤ n) : -(100000 * (k : Int)) ≤ tillTo xs st k ∧ tillTo xs st k ≤ 100000 + 100000 * (k : Int) := by
  obtain ⟨h60, s1, s2, hs⟩ := cnt_at h
  induction k with
  | zero => simp [tillTo]; omega
  | succ k ih =>
    have h1 := ih (by omega)
    have h2 := am_in (hs k (by omega))
    rw [tillTo]
    omega
theorem low_in {n : Nat} {xs : List SlipR} {st : Int} (k : Nat) : lowTo xs st k ≤ st ∧ (∀ j, j ≤ k → lowTo xs st k ≤ tillTo xs st j) ∧ ∃ j, j ≤ k ∧ lowTo xs st k = tillTo xs st j := by
  induction k with
  | zero => exact ⟨by simp [lowTo], fun j hj => by obtain rfl : j = 0 := by omega
                                                   simp [lowTo, tillTo], 0, Nat.le_refl _, rfl⟩
  | succ k ih =>
    obtain ⟨h1, h2, j, hj, he⟩ := ih
    rw [lowTo]
    refine ⟨by omega, fun i hi => ?_, ?_⟩
    · by_cases e : i = k + 1
      · subst e; omega
      · have := h2 i (by omega); omega
    · by_cases hc : lowTo xs st k ≤ tillTo xs st (k + 1)
      · exact ⟨j, by omega, by omega⟩
      · exact ⟨k + 1, Nat.le_refl _, by omega⟩
def tillV (n : Nat) (xs : List SlipR) (st : Int) : Int := if cntB n xs st then tillTo xs st n else -1000000000
def lowV (n : Nat) (xs : List SlipR) (st : Int) : Int := if cntB n xs st then lowTo xs st n else -1000000000
def startV (n : Nat) (xs : List SlipR) : Int := if cntB n xs 0 then (if 100000 < -(lowTo xs 0 n) then -1 else -(lowTo xs 0 n)) else -1
def missV (n : Nat) (xs : List SlipR) (st c : Int) : Int := if cntB n xs st && inB c 0 10000000 then tillTo xs st n - c else 0
def gM (xs : List SlipR) (st : Int) (k : Nat) : Int → Option Int := fun x => if 0 ≤ x ∧ x ≤ k then some (tillTo xs st x.toNat) else none
theorem gM_zero (xs : List SlipR) (st : Int) : upd (fun _ => none) 0 st = gM xs st 0 := by
  funext x
  by_cases h : x = 0
  · subst h; simp [upd, gM, tillTo]
  · simp only [upd, gM, if_neg h]
    rw [if_neg (by omega)]
theorem gM_succ (xs : List SlipR) (st : Int) (k : Nat) : upd (gM xs st k) ((k : Int) + 1) (tillTo xs st (k + 1)) = gM xs st (k + 1) := by
  funext x
  by_cases h : x = (k : Int) + 1
  · subst h
    have e : ((k : Int) + 1).toNat = k + 1 := by omega
    simp [upd, gM, e]
    omega
  · simp only [upd, gM, if_neg h]
    by_cases h2 : 0 ≤ x ∧ x ≤ k
    · rw [if_pos h2, if_pos (by omega)]
    · rw [if_neg h2, if_neg (by omega)]
theorem gM_at (xs : List SlipR) (st : Int) (n k : Nat) (h : k ≤ n) : (gM xs st n (k : Int)).getD 0 = tillTo xs st k := by
  simp [gM]
  rw [if_pos (by omega)]
  rfl
theorem wf_i {x : Int} (h : -9223372036854775808 ≤ x ∧ x ≤ 9223372036854775807) : (Lit.int .i64 x).wf = true := WalkArith.wf_i64 h
/-- the amounts after each number of slips -/
def Amts (n : Nat) (xs : List SlipR) (st : Int) (w : World) (e : Ending) (w' : World) : Prop := ∃ b, e = .returned (.map (some b)) ∧ MapF w' b (n + 1) (gM xs st n) ∧ w.heap.size ≤ b ∧ Below w.heap.size w w'
theorem iamountsAfter (A : Option Addr) (n c : Nat) (xs : List SlipR) (st : Int) (w : World) (hB : cntB n xs st = true) (hx : ReadsSlip w A n xs) : Calls Try.prog 64 #[.slice A n c, .int .i64 st] w (Amts n xs st w) := by
  have hmm := @run_makeMap Try.prog
  obtain ⟨h60, s1, s2, hs⟩ := cnt_at hB
  have HTI := Lib.hid (till_in hB)
  have HS := Lib.hid hs
  have H0 := Lib.hid (gM_zero xs st)
  have wfs := Lib.hid (wf_i (x := st) (by omega))
  have wf0 := Lib.hid (wf_i (x := 0) (by omega))
  clear hs hB
  go_enter Try.func64, Try.ntmps64
  go_wp2_with (refine wpList_storeF _ rfl (.tmp 8) (.const (.int .i64 0)) (.tmp 9) (Or.inr rfl) w.heap.size 0 _ rfl (MapF.made w) (by decide) 0 st rfl rfl wf0.out wfs.out ?_; intro w1 hM1 hg1)
  have i1 : In w.heap.size w w1 := In.growr (by (repeat (first | exact In.refl _ | assumption | apply In.alloc | apply In.drewN | apply In.drew | (refine In.step ?_ (by assumption))))) hg1 (Nat.le_refl _)
  rw [H0.out] at hM1
  clear hg1 hmm
  go_wp2
  go_loopw [13] (fun i wr => ∃ k : Nat, k ≤ n ∧ i = .int .i64 k ∧ MapF wr w.heap.size (k + 1) (gM xs st k) ∧ In w.heap.size w wr) (fun i _ => n - (intOf i).toNat)
  case atStart => exact ⟨0, Nat.zero_le _, rfl, hM1, i1⟩
  case round =>
    clear hM1 i1
    obtain ⟨k, hk, rfl, hM, hi⟩ := hrel
    by_cases hlt : k < n
    · have HT : Hid (tillTo xs st (k + 1) = tillTo xs st k + (xs.getD k z35).f1 - (xs.getD k z35).f2) := Lib.hid rfl
      have HG := Lib.hid (gM_at xs st k k (Nat.le_refl _))
      have HU := Lib.hid (gM_succ xs st k)
      have t1 := HTI.out k hk
      have t2 := HTI.out (k + 1) (by omega)
      have ham := am_in (HS.out k hlt)
      have wfk := Lib.hid (wf_i (x := (k : Int)) (by omega))
      have wfk1 := Lib.hid (wf_i (x := (k : Int) + 1) (by omega))
      have wft := Lib.hid (wf_i (x := tillTo xs st (k + 1)) (by omega))
      obtain ⟨a, rfl, ha0, ha1, ha2⟩ := (hx.in_ hi).2 k hlt
      generalize xs.getD k z35 = x at *
      obtain ⟨x0, x1, x2⟩ := x
      simp only at ha0 ha1 ha2 HT ham
      have HT2 := Lib.hid HT.out.symm
      generalize tillTo xs st (k + 1) = t' at *
      generalize tillTo xs st k = t at *
      generalize gM xs st k = g at *
      go_wp2_with (first | (at_lookup; refine wpList_lookF _ rfl (.tmp 21) (.tmp 22) rfl w.heap.size (k + 1) g rfl (hM.alloc _) (k : Int) rfl wfk.out ?_; rw [HG.out]) | (at_mapUpdate; refine wpList_storeF _ rfl (.tmp 18) (.tmp 20) (.tmp 29) (Or.inl rfl) w.heap.size (k + 1) g rfl (hM.alloc _) (by unfold maxLen; omega) ((k : Int) + 1) (t + x1 - x2) rfl rfl wfk1.out (by rw [HT2.out]; exact wft.out) ?_; intro w2 hM2 hg2))
      have i2 : In w.heap.size w w2 := In.growr (by (repeat (first | exact In.refl _ | assumption | apply In.alloc | apply In.drewN | apply In.drew | (refine In.step ?_ (by assumption))))) hg2 (Nat.le_refl _)
      rw [HT2.out, HU.out] at hM2
      clear hg2 hM
      go_wp2
      go_roundw
      case rel => exact ⟨k + 1, by omega, by go_num, hM2, i2⟩
      case measure => simp [intOf]; omega
    · obtain rfl : k = n := by omega
      go_wp2
      go_ret
      exact ⟨_, rfl, hM, Nat.le_refl _, hi.below⟩
theorem iTillAfter (A : Option Addr) (n c : Nat) (xs : List SlipR) (st : Int) (w : World) (hn : n ≤ maxLen) (hx : ReadsSlip w A n xs) : Calls Try.prog 14 #[.slice A n c, .int .i64 st] w (Val (i64 (tillV n xs st)) w) := by
  cases hB : cntB n xs st
  · have HV : Hid (tillV n xs st = -1000000000) := Lib.hid (by simp [tillV, hB])
    go_enter Try.func14, Try.ntmps14
    go_wp2_with fail
    refine (icanCount A n c xs st _ hn hx).mono ?_
    rintro _ w1 ⟨rfl, hb1⟩
    rw [hB]
    go_wp2_with (first | (go_at_call 66; refine (iIn _ _ _ _).mono ?_; rintro e w' ⟨rfl, rfl⟩))
    go_ret
    exact Val.mk' (v_int HV.out.symm) (by (repeat (first | exact In.refl _ | assumption | apply In.alloc | apply In.drewN | apply In.drew | (refine In.step ?_ (by assumption)))))
  have HV : Hid (tillV n xs st = tillTo xs st n) := Lib.hid (by simp [tillV, hB])
  obtain ⟨h60, s1, s2, hs⟩ := cnt_at hB
  have HTI := Lib.hid (till_in hB)
  have HS := Lib.hid hs
  clear hs
  go_enter Try.func14, Try.ntmps14
  go_wp2_with fail
  refine (icanCount A n c xs st _ hn hx).mono ?_
  rintro _ w1 ⟨rfl, hb1⟩
  have i1 : In w.heap.size w w1 := In.step (by (repeat (first | exact In.refl _ | assumption | apply In.alloc | apply In.drewN | apply In.drew | (refine In.step ?_ (by assumption))))) hb1
  rw [hB]
  clear hb1
  have HB := Lib.hid hB
  have HG := Lib.hid (gM_at xs st n n (Nat.le_refl _))
  have wfn := Lib.hid (wf_i (x := (n : Int)) (by omega))
  clear hB
  go_wp2_with fail
  refine (iamountsAfter A n c xs st _ HB.out (hx.in_ (by (repeat (first | exact In.refl _ | assumption | apply In.alloc | apply In.drewN | apply In.drew | (refine In.step ?_ (by assumption))))))).mono ?_
  rintro _ w2 ⟨b, rfl, hM, hb0, hb2⟩
  have i2 : In w.heap.size w w2 := In.step (by (repeat (first | exact In.refl _ | assumption | apply In.alloc | apply In.drewN | apply In.drew | (refine In.step ?_ (by assumption))))) hb2
  clear hb2 i1 hb0
  go_wp2_with (at_lookup; refine wpList_lookF _ rfl (.tmp 11) (.tmp 13) rfl b (n + 1) _ rfl hM (n : Int) rfl wfn.out ?_; rw [HG.out])
  go_ret
  exact Val.mk' (v_int HV.out.symm) (by (repeat (first | exact In.refl _ | assumption | apply In.alloc | apply In.drewN | apply In.drew | (refine In.step ?_ (by assumption)))))
def LowDone (n : Nat) (xs : List SlipR) (st : Int) (done : Int → Bool) (v : Int) : Prop := v ≤ st ∧ (∃ j, j ≤ n ∧ v = tillTo xs st j) ∧ ∀ j : Nat, j ≤ n → done j = true → v ≤ tillTo xs st j
theorem lowDone_start (n : Nat) (xs : List SlipR) (st : Int) : LowDone n xs st (fun _ => false) st := ⟨Int.le_refl _, ⟨0, Nat.zero_le _, rfl⟩, fun j _ h => by cases h⟩
theorem lowDone_end {n : Nat} {xs : List SlipR} {st : Int} {done : Int → Bool} {v : Int} (h : LowDone n xs st done v) (hd : ∀ x, (gM xs st n x).isSome = true → done x = true) : v = lowTo xs st n := by
  obtain ⟨h1, ⟨j, hj, he⟩, h3⟩ := h
  obtain ⟨l1, l2, i, hi, hl⟩ := low_in (n := n) (xs := xs) (st := st) n
  have a := l2 j hj
  have b := h3 i hi (hd i (by simp only [gM]; rw [if_pos (by omega)]; rfl))
  omega
theorem lowDone_step {n : Nat} {xs : List SlipR} {st : Int} {done : Int → Bool} {v x c : Int} (h : LowDone n xs st done v) (hx : gM xs st n x = some c) : LowDone n xs st (fun y => done y || decide (y = x)) (min v c) := by
  obtain ⟨h1, ⟨j, hj, he⟩, h3⟩ := h
  have hin : 0 ≤ x ∧ x ≤ n ∧ tillTo xs st x.toNat = c := by
    simp only [gM] at hx
    split at hx
    · rename_i h
      injection hx with hx
      exact ⟨h.1, h.2, hx⟩
    · cases hx
  refine ⟨by omega, ?_, fun i hi hd => ?_⟩
  · by_cases hc : v ≤ c
    · exact ⟨j, hj, by omega⟩
    · exact ⟨x.toNat, by omega, by omega⟩
  · by_cases e : (i : Int) = x
    · have : x.toNat = i := by omega
      rw [this] at hin
      omega
    · have := h3 i hi (by simpa [e] using hd)
      omega
theorem iLowestTill (A : Option Addr) (n c : Nat) (xs : List SlipR) (st : Int) (w : World) (hn : n ≤ maxLen) (hx : ReadsSlip w A n xs) : Calls Try.prog 15 #[.slice A n c, .int .i64 st] w (Val (i64 (lowV n xs st)) w) := by
  cases hB : cntB n xs st
  · have HV : Hid (lowV n xs st = -1000000000) := Lib.hid (by simp [lowV, hB])
    go_enter Try.func15, Try.ntmps15
    go_wp2_with fail
    refine (icanCount A n c xs st _ hn hx).mono ?_
    rintro _ w1 ⟨rfl, hb1⟩
    rw [hB]
    go_wp2_with (first | (go_at_call 66; refine (iIn _ _ _ _).mono ?_; rintro e w' ⟨rfl, rfl⟩))
    go_ret
    exact Val.mk' (v_int HV.out.symm) (by (repeat (first | exact In.refl _ | assumption | apply In.alloc | apply In.drewN | apply In.drew | (refine In.step ?_ (by assumption)))))
  have HV : Hid (lowV n xs st = lowTo xs st n) := Lib.hid (by simp [lowV, hB])
  obtain ⟨h60, s1, s2, hs⟩ := cnt_at hB
  have HTI := Lib.hid (till_in hB)
  have HS := Lib.hid hs
  clear hs
  go_enter Try.func15, Try.ntmps15
  go_wp2_with fail
  refine (icanCount A n c xs st _ hn hx).mono ?_
  rintro _ w1 ⟨rfl, hb1⟩
  have i1 : In w.heap.size w w1 := In.step (by (repeat (first | exact In.refl _ | assumption | apply In.alloc | apply In.drewN | apply In.drew | (refine In.step ?_ (by assumption))))) hb1
  rw [hB]
  clear hb1
  have HB := Lib.hid hB
  clear hB
  go_wp2_with fail
  refine (iamountsAfter A n c xs st _ HB.out (hx.in_ (by (repeat (first | exact In.refl _ | assumption | apply In.alloc | apply In.drewN | apply In.drew | (refine In.step ?_ (by assumption))))))).mono ?_
  rintro _ w2 ⟨b, rfl, hM, hb0, hb2⟩
  have i2 : In w.heap.size w w2 := In.step (by (repeat (first | exact In.refl _ | assumption | apply In.alloc | apply In.drewN | apply In.drew | (refine In.step ?_ (by assumption))))) hb2
  have hb0' : w.heap.size ≤ b := Nat.le_trans i1.size hb0
  have hsz := i2.size
  clear hb2 i1 hb0
  go_wp2_with (at_range; refine wpList_rangeF _ rfl (.tmp 15) rfl b (n + 1) _ rfl hM ?_; intro w3 cnt hR hg3 hs3)
  have i3 : In w.heap.size w w3 := In.grow0 i2 hg3
  clear hg3 i2 hM
  go_frame
  go_loopw [5] (fun l wr => ∃ (done : Int → Bool) (cnt : Nat) (v : Int), RangeF wr b w2.heap.size (n + 1) (gM xs st n) done cnt ∧ l = .int .i64 v ∧ LowDone n xs st done v ∧ In w.heap.size w wr) (fun _ wr => wr.rangeLeft b w2.heap.size)
  case atStart => exact ⟨_, _, st, hR, rfl, lowDone_start n xs st, i3⟩
  case round =>
    clear hR i3 hs3
    obtain ⟨done, cnt, v, hR, rfl, hL, hi⟩ := hrel
    have HL := Lib.hid hL
    clear hL
    go_wp2_with (at_next; refine wpList_nextF _ rfl _ rfl b w2.heap.size (n + 1) _ done cnt rfl hR ?_ ?_)
    · intro _ hd
      have HE := Lib.hid (lowDone_end HL.out hd)
      clear hd
      go_wp2
      go_ret
      exact Val.mk' (v_int (by rw [HV.out, HE.out])) (by (repeat (first | exact In.refl _ | assumption | apply In.alloc | apply In.drewN | apply In.drew | (refine In.step ?_ (by assumption)))))
    · intro x c w4 cnt4 hwx hwc hf hdx hR4 hlt hg4 hs4 hen
      have HS4 := Lib.hid (lowDone_step HL.out hf)
      have i4 : In w.heap.size w w4 := In.growr hi hg4 hsz
      have hm : Hid (w4.rangeLeft b w2.heap.size < wr.rangeLeft b w2.heap.size) := Lib.hid (by rw [hR4.left_eq, hR.left_eq]; exact hlt)
      clear hf hdx hg4 hs4 hwx hwc hR hlt
      by_cases hc : c < v
      all_goals
        go_wp2
        go_roundw
        case rel => exact ⟨_, cnt4, min v c, hR4, v_int (by omega), HS4.out, i4⟩
        case measure => exact hm.out
theorem iLeastStart (A : Option Addr) (n c : Nat) (xs : List SlipR) (w : World) (hn : n ≤ maxLen) (hx : ReadsSlip w A n xs) : Calls Try.prog 12 #[.slice A n c] w (Val (i64 (startV n xs)) w) := by
  cases hB : cntB n xs 0
  · have HV : Hid (startV n xs = -1) := Lib.hid (by simp [startV, hB])
    go_enter Try.func12, Try.ntmps12
    go_wp2_with fail
    refine (icanCount A n c xs 0 _ hn hx).mono ?_
    rintro _ w1 ⟨rfl, hb1⟩
    rw [hB]
    go_wp2_with (first | (go_at_call 66; refine (iIn _ _ _ _).mono ?_; rintro e w' ⟨rfl, rfl⟩))
    go_ret
    exact Val.mk' (v_int HV.out.symm) (by (repeat (first | exact In.refl _ | assumption | apply In.alloc | apply In.drewN | apply In.drew | (refine In.step ?_ (by assumption)))))
  have hl := low_in (n := n) (xs := xs) (st := 0) n
  have HV : Hid (startV n xs = if 100000 < -(lowTo xs 0 n) then -1 else -(lowTo xs 0 n)) := Lib.hid (by simp [startV, hB])
  have HL : Hid (lowV n xs 0 = lowTo xs 0 n) := Lib.hid (by simp [lowV, hB])
  obtain ⟨h60, s1, s2, hs⟩ := cnt_at hB
  obtain ⟨l1, l2, j, hj, hlj⟩ := hl
  have htj := till_in hB j hj
  have hlo : -6000000 ≤ lowTo xs 0 n := by omega
  clear hs l2 hlj htj hj
  go_enter Try.func12, Try.ntmps12
  go_wp2_with fail
  refine (icanCount A n c xs 0 _ hn hx).mono ?_
  rintro _ w1 ⟨rfl, hb1⟩
  have i1 : In w.heap.size w w1 := In.step (by (repeat (first | exact In.refl _ | assumption | apply In.alloc | apply In.drewN | apply In.drew | (refine In.step ?_ (by assumption))))) hb1
  rw [hB]
  clear hb1
  go_wp2_with fail
  refine (iLowestTill A n c xs 0 _ hn (hx.in_ i1)).mono ?_
  rintro _ w2 ⟨rfl, hb2⟩
  have i2 : In w.heap.size w w2 := In.step (by (repeat (first | exact In.refl _ | assumption | apply In.alloc | apply In.drewN | apply In.drew | (refine In.step ?_ (by assumption))))) hb2
  rw [HL.out]
  clear hb2 i1 HL
  generalize lowTo xs 0 n = l at *
  by_cases hc : 100000 < -l
  all_goals
    go_wp2
    go_ret
    exact Val.mk' (v_int (by rw [HV.out]; first | rw [if_pos (by omega)] | rw [if_neg (by omega)])) (by (repeat (first | exact In.refl _ | assumption | apply In.alloc | apply In.drewN | apply In.drew | (refine In.step ?_ (by assumption)))))
theorem iMissingMoney (A : Option Addr) (n c : Nat) (xs : List SlipR) (st d : Int) (w : World) (hn : n ≤ maxLen) (hx : ReadsSlip w A n xs) : Calls Try.prog 19 #[.slice A n c, .int .i64 st, .int .i64 d] w (Val (i64 (missV n xs st d)) w) := by
  cases hB : cntB n xs st
  · have HV : Hid (missV n xs st d = 0) := Lib.hid (by simp [missV, hB])
    go_enter Try.func19, Try.ntmps19
    go_wp2_with fail
    refine (icanCount A n c xs st _ hn hx).mono ?_
    rintro _ w1 ⟨rfl, hb1⟩
    rw [hB]
    go_wp2_with (first | (go_at_call 66; refine (iIn _ _ _ _).mono ?_; rintro e w' ⟨rfl, rfl⟩))
    go_ret
    exact Val.mk' (v_int HV.out.symm) (by (repeat (first | exact In.refl _ | assumption | apply In.alloc | apply In.drewN | apply In.drew | (refine In.step ?_ (by assumption)))))
  cases hd : inB d 0 10000000
  · have HV : Hid (missV n xs st d = 0) := Lib.hid (by simp [missV, hd])
    go_enter Try.func19, Try.ntmps19
    go_wp2_with fail
    refine (icanCount A n c xs st _ hn hx).mono ?_
    rintro _ w1 ⟨rfl, hb1⟩
    rw [hB]
    go_wp2_with (first | (go_at_call 66; refine (iIn _ _ _ _).mono ?_; rintro e w' ⟨rfl, rfl⟩))
    go_ret
    exact Val.mk' (v_int HV.out.symm) (by (repeat (first | exact In.refl _ | assumption | apply In.alloc | apply In.drewN | apply In.drew | (refine In.step ?_ (by assumption)))))
  have HV : Hid (missV n xs st d = tillTo xs st n - d) := Lib.hid (by simp [missV, hB, hd])
  have HL : Hid (tillV n xs st = tillTo xs st n) := Lib.hid (by simp [tillV, hB])
  obtain ⟨d1, d2⟩ := inB_tt hd
  obtain ⟨h60, s1, s2, hs⟩ := cnt_at hB
  have ht := till_in hB n (Nat.le_refl _)
  clear hs
  go_enter Try.func19, Try.ntmps19
  go_wp2_with fail
  refine (icanCount A n c xs st _ hn hx).mono ?_
  rintro _ w1 ⟨rfl, hb1⟩
  have i1 : In w.heap.size w w1 := In.step (by (repeat (first | exact In.refl _ | assumption | apply In.alloc | apply In.drewN | apply In.drew | (refine In.step ?_ (by assumption))))) hb1
  rw [hB]
  clear hb1
  go_wp2_with (first | (go_at_call 66; refine (iIn _ _ _ _).mono ?_; rintro e w' ⟨rfl, rfl⟩))
  refine (iTillAfter A n c xs st _ hn (hx.in_ i1)).mono ?_
  rintro _ w2 ⟨rfl, hb2⟩
  have i2 : In w.heap.size w w2 := In.step (by (repeat (first | exact In.refl _ | assumption | apply In.alloc | apply In.drewN | apply In.drew | (refine In.step ?_ (by assumption))))) hb2
  rw [HL.out]
  clear hb2 i1 HL
  generalize tillTo xs st n = l at *
  go_wp2
  go_ret
  exact Val.mk' (v_int HV.out.symm) (by (repeat (first | exact In.refl _ | assumption | apply In.alloc | apply In.drewN | apply In.drew | (refine In.step ?_ (by assumption)))))
end Go.Proofs.Ytgjbbidcpmglbaa
