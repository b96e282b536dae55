/- Chapter 20: BasketsOk, CountWith. -/
import Derived.Test.YtmkfnhgaiheckaaIn
import Derived.Test.YtmkfnhgaiheckaaSBasket
import Derived.Test.YtmkfnhgaiheckaaRis
import Derived.Test.YtmkfnhgaiheckaaSet
import Derived.Test.YtmkfnhgaiheckaaIx
import Derived.Test.YtmkfnhgaiheckaaQuiet
import Derived.BigQuiet
import Derived.Deep.QuietTactic
namespace Go.Proofs.Ytmkfnhgaiheckaa
open Go.ChangeShapes Go.WideShapes Go.ChangeAt Go.RowKit
set_option linter.unusedVariables false
set_option linter.unusedSimpArgs false
set_option maxHeartbeats 2000000

abbrev z20 : BasketR := ⟨[]⟩
def okB (xs : List BasketR) (i : Nat) : Bool := risB (xs.getD i z20).f0 1 9 (xs.getD i z20).f0.length
def bsB (n : Nat) (xs : List BasketR) : Bool := decide (n ≤ 30) && allOk (okB xs) n
theorem bsB_f {n : Nat} {xs : List BasketR} (k : Nat) (hk : k < n) (h : okB xs k = false) : bsB n xs = false := by simp [bsB, allOk_f _ _ k hk h]
theorem bsB_n {n : Nat} {xs : List BasketR} (h : ∀ i, i < n → okB xs i = true) : bsB n xs = decide (n ≤ 30) := by simp [bsB, allOk_t _ _ h]
theorem bsB_at {n : Nat} {xs : List BasketR} (h : bsB n xs = true) : n ≤ 30 ∧ ∀ i, i < n → okB xs i = true := by
  simp only [bsB, Bool.and_eq_true, decide_eq_true_eq] at h
  exact ⟨h.1, fun i hi => allOk_at _ _ h.2 i hi⟩
def hasN (bs : List Int) (v : Int) : Bool := decide (0 ≤ idxOf bs v bs.length)
theorem hasN_iff {bs : List Int} {v : Int} : hasN bs v = true ↔ ∃ i, i < bs.length ∧ bs.getD i 0 = v := by
  unfold hasN
  rw [decide_eq_true_eq]
  constructor
  · intro h
    by_cases he : ∃ i, i < bs.length ∧ bs.getD i 0 = v
    · exact he
    · have := idxOf_neg (xs := bs) (v := v) (n := bs.length)
      have h2 := this.2 fun i hi hv => he ⟨i, hi, hv⟩
      omega
  · rintro ⟨i, hi, hv⟩
    have := idxOf_neg (xs := bs) (v := v) (n := bs.length)
    by_cases h0 : idxOf bs v bs.length < 0
    · exact absurd hv (this.1 h0 i hi)
    · omega
def hasAllB (bs ts : List Int) (m : Nat) : Bool := allOk (fun i => hasN bs (ts.getD i 0)) m
def cntTo (p : Nat → Bool) : Nat → Int
  | 0 => 0
  | k + 1 => if p k then cntTo p k + 1 else cntTo p k
theorem cntTo_in (p : Nat → Bool) (k : Nat) : 0 ≤ cntTo p k ∧ cntTo p k ≤ k := by
  induction k with
  | zero => simp [cntTo]
  | succ k ih => rw [cntTo]; split <;> omega
theorem cntTo_t {p : Nat → Bool} {k : Nat} (h : p k = true) : cntTo p (k + 1) = cntTo p k + 1 := by rw [cntTo, if_pos h]
theorem cntTo_f {p : Nat → Bool} {k : Nat} (h : p k = false) : cntTo p (k + 1) = cntTo p k := by rw [cntTo, if_neg (by simp [h])]
theorem cntTo_congr {p q : Nat → Bool} (n : Nat) (h : ∀ i, i < n → p i = q i) : cntTo p n = cntTo q n := by
  induction n with
  | zero => rfl
  | succ n ih => rw [cntTo, cntTo, ih fun i hi => h i (by omega), h n (by omega)]
/-- basket i has all of ts -/
def hasI (xs : List BasketR) (ts : List Int) (m : Nat) (i : Nat) : Bool := hasAllB (xs.getD i z20).f0 ts m
/-- basket i has the set s -/
def setI (xs : List BasketR) (s : Nat) (i : Nat) : Bool := decide (setN (xs.getD i z20).f0 (xs.getD i z20).f0.length &&& s = s)
theorem ris_set {bs : List Int} (h : risB bs 1 9 bs.length = true) : ∀ i, i < bs.length → 0 ≤ bs.getD i 0 ∧ bs.getD i 0 ≤ 9 := fun i hi => by
  have := risB_in h i hi
  omega
theorem set_has {bs ts : List Int} {m : Nat} (hb : ∀ i, i < bs.length → 0 ≤ bs.getD i 0 ∧ bs.getD i 0 ≤ 9) (ht : ∀ i, i < m → 0 ≤ ts.getD i 0 ∧ ts.getD i 0 ≤ 9) :
    decide (setN bs bs.length &&& setN ts m = setN ts m) = hasAllB bs ts m := by
  rw [Bool.eq_iff_iff, decide_eq_true_eq, and_eq_iff]
  constructor
  · intro h
    refine allOk_t _ _ fun i hi => ?_
    have h1 := h (ts.getD i 0).toNat (setN_bit.2 ⟨i, hi, rfl⟩)
    obtain ⟨j, hj, he⟩ := setN_bit.1 h1
    have := hb j hj
    have := ht i hi
    exact hasN_iff.2 ⟨j, hj, by omega⟩
  · intro h j hj
    obtain ⟨i, hi, he⟩ := setN_bit.1 hj
    have h1 := allOk_at _ _ h i hi
    obtain ⟨q, hq, hv⟩ := hasN_iff.1 h1
    exact setN_bit.2 ⟨q, hq, by rw [hv]; exact he⟩
theorem setI_has {xs : List BasketR} {ts : List Int} {m n : Nat} (hb : ∀ i, i < n → okB xs i = true) (ht : ∀ i, i < m → 0 ≤ ts.getD i 0 ∧ ts.getD i 0 ≤ 9) :
    cntTo (setI xs (setN ts m)) n = cntTo (hasI xs ts m) n := cntTo_congr n fun i hi => set_has (ris_set (hb i hi)) ht
def cntV (n : Nat) (xs : List BasketR) (m : Nat) (ts : List Int) : Int := if bsB n xs && risB ts 1 9 m then cntTo (hasI xs ts m) n else -1
theorem sBasketsOk (A : Option Addr) (n c : Nat) (xs : List BasketR) (w : World) (hn : n ≤ maxLen) (hx : ReadsBasket w A n xs) : Calls Try.prog 94 #[.slice A n c] w (Val (.bool (bsB n xs)) w) := by
  unfold maxLen at hn
  go_enter Try.func94, Try.ntmps94
  go_wp2
  go_loopw [3] (fun i wr => ∃ k : Nat, k ≤ n ∧ i = .int .i64 k ∧ (∀ i, i < k → okB xs i = true) ∧ In w.heap.size w wr) (fun i _ => n - (intOf i).toNat)
  case atStart => exact ⟨0, Nat.zero_le _, rfl, fun i hi => absurd hi (Nat.not_lt_zero _), by (repeat (first | exact In.refl _ | assumption | apply In.alloc | apply In.drewN | apply In.drew | (refine In.step ?_ (by assumption))))⟩
  case round =>
    obtain ⟨k, hk, rfl, ho, hi⟩ := hrel
    have HO := Lib.hid ho
    clear ho
    by_cases hlt : k < n
    · obtain ⟨a, rfl, B, c', h0, g1, g2, hr⟩ := (hx.in_ hi).2 k hlt
      have HK : Hid (okB xs k = risB (xs.getD k z20).f0 1 9 (xs.getD k z20).f0.length) := Lib.hid rfl
      generalize (xs.getD k z20).f0 = x at *
      have hm : x.length ≤ maxLen := Nat.le_trans g1 g2
      clear g1 g2
      go_wp2_with fail
      refine (sRising B x.length c' x 1 9 _ hm hr).mono ?_
      rintro _ w1 ⟨rfl, hb1⟩
      clear hr
      cases h1 : risB x 1 9 x.length
      · have HF : Hid (bsB n xs = false) := Lib.hid (bsB_f k hlt (by rw [HK.out]; exact h1))
        go_wp2
        go_ret
        exact Val.mk' (v_bool HF.out.symm) (by (repeat (first | exact In.refl _ | assumption | apply In.alloc | apply In.drewN | apply In.drew | (refine In.step ?_ (by assumption)))))
      have HT : Hid (okB xs k = true) := Lib.hid (by rw [HK.out]; exact h1)
      go_wp2
      go_roundw
      case rel => exact ⟨k + 1, by omega, by go_num, fun i hi => by
          by_cases e : i = k
          · subst e; exact HT.out
          · exact HO.out i (by omega), by (repeat (first | exact In.refl _ | assumption | apply In.alloc | apply In.drewN | apply In.drew | (refine In.step ?_ (by assumption))))⟩
      case measure => simp [intOf]; omega
    · obtain rfl : k = n := by omega
      have HT := Lib.hid (bsB_n HO.out)
      go_wp2
      go_ret
      exact Val.mk' (v_bool (by rw [HT.out]; simp; omega)) (by (repeat (first | exact In.refl _ | assumption | apply In.alloc | apply In.drewN | apply In.drew | (refine In.step ?_ (by assumption)))))
theorem iBought (A : Option Addr) (n c : Nat) (xs : List Int) (w : World) (hn : n ≤ maxLen) (hx : ReadsI w A n xs) : Calls Try.prog 174 #[.slice A n c] w (Val (.bool (risB xs 1 9 n)) w) := by
  have HE := Lib.hid (risB_eq xs 1 9 n)
  go_enter Try.func174, Try.ntmps174
  go_wp2_with fail
  refine (iAsc A n c xs _ hn hx).mono ?_
  rintro _ w1 ⟨rfl, hb1⟩
  cases h1 : ascB xs n
  · go_wp2
    go_ret
    exact Val.mk' (v_bool (by rw [HE.out, h1]; rfl)) (by (repeat (first | exact In.refl _ | assumption | apply In.alloc | apply In.drewN | apply In.drew | (refine In.step ?_ (by assumption)))))
  go_wp2_with fail
  refine (iAll A n c xs 1 9 _ hn (hx.below hb1 (Nat.le_refl _))).mono ?_
  rintro _ _ ⟨rfl, rfl⟩
  go_wp2
  go_ret
  exact Val.mk' (v_bool (by rw [HE.out, h1]; rfl)) (by (repeat (first | exact In.refl _ | assumption | apply In.alloc | apply In.drewN | apply In.drew | (refine In.step ?_ (by assumption)))))
theorem iBasketsOk (A : Option Addr) (n c : Nat) (xs : List BasketR) (w : World) (hn : n ≤ maxLen) (hx : ReadsBasket w A n xs) : Calls Try.prog 173 #[.slice A n c] w (Val (.bool (bsB n xs)) w) := by
  unfold maxLen at hn
  by_cases h30 : 30 < n
  · have HF : Hid (bsB n xs = false) := Lib.hid (by simp [bsB]; omega)
    go_enter Try.func173, Try.ntmps173
    go_wp2
    go_ret
    exact Val.mk' (v_bool HF.out.symm) (by (repeat (first | exact In.refl _ | assumption | apply In.alloc | apply In.drewN | apply In.drew | (refine In.step ?_ (by assumption)))))
  go_enter Try.func173, Try.ntmps173
  go_wp2
  go_loopw [10] (fun i wr => ∃ k : Nat, k ≤ n ∧ i = .int .i64 k ∧ (∀ i, i < k → okB xs i = true) ∧ In w.heap.size w wr) (fun i _ => n - (intOf i).toNat)
  case atStart => exact ⟨0, Nat.zero_le _, rfl, fun i hi => absurd hi (Nat.not_lt_zero _), by (repeat (first | exact In.refl _ | assumption | apply In.alloc | apply In.drewN | apply In.drew | (refine In.step ?_ (by assumption))))⟩
  case round =>
    obtain ⟨k, hk, rfl, ho, hi⟩ := hrel
    have HO := Lib.hid ho
    clear ho
    by_cases hlt : k < n
    · obtain ⟨a, rfl, B, c', h0, g1, g2, hr⟩ := (hx.in_ hi).2 k hlt
      have HK : Hid (okB xs k = risB (xs.getD k z20).f0 1 9 (xs.getD k z20).f0.length) := Lib.hid rfl
      generalize (xs.getD k z20).f0 = x at *
      have hm : x.length ≤ maxLen := Nat.le_trans g1 g2
      clear g1 g2
      have HR := Lib.hid (fun o => iBought B x.length c' x (wr.alloc o) hm (hr.alloc o))
      clear hr
      go_wp2_with fail
      refine (HR.out _).mono ?_
      rintro _ w1 ⟨rfl, hb1⟩
      cases h1 : risB x 1 9 x.length
      · have HF : Hid (bsB n xs = false) := Lib.hid (bsB_f k hlt (by rw [HK.out]; exact h1))
        go_wp2
        go_ret
        exact Val.mk' (v_bool HF.out.symm) (by (repeat (first | exact In.refl _ | assumption | apply In.alloc | apply In.drewN | apply In.drew | (refine In.step ?_ (by assumption)))))
      have HT : Hid (okB xs k = true) := Lib.hid (by rw [HK.out]; exact h1)
      go_wp2
      go_roundw
      case rel => exact ⟨k + 1, by omega, by go_num, fun i hi => by
          by_cases e : i = k
          · subst e; exact HT.out
          · exact HO.out i (by omega), by (repeat (first | exact In.refl _ | assumption | apply In.alloc | apply In.drewN | apply In.drew | (refine In.step ?_ (by assumption))))⟩
      case measure => simp [intOf]; omega
    · obtain rfl : k = n := by omega
      have HT := Lib.hid (bsB_n HO.out)
      go_wp2
      go_ret
      exact Val.mk' (v_bool (by rw [HT.out]; simp; omega)) (by (repeat (first | exact In.refl _ | assumption | apply In.alloc | apply In.drewN | apply In.drew | (refine In.step ?_ (by assumption)))))
theorem sSet (A : Option Addr) (n c : Nat) (xs : List Int) (w : World) (hn : n ≤ maxLen) (hb : ∀ i, i < n → 0 ≤ xs.getD i 0 ∧ xs.getD i 0 ≤ 9) (hx : ReadsI w A n xs) : Calls Try.prog 172 #[.slice A n c] w (Same (.int .i64 (setN xs n : Nat)) w) := by
  unfold maxLen at hn
  have HB := Lib.hid hb
  clear hb
  go_enter Try.func172, Try.ntmps172
  go_wp2
  go_loop [3, 4] (fun s i => ∃ k : Nat, k ≤ n ∧ i = .int .i64 k ∧ s = .int .i64 (setN xs k : Nat)) (fun _ i => n - (intOf i).toNat)
  case atStart => exact ⟨0, Nat.zero_le _, rfl, rfl⟩
  case round =>
    obtain ⟨k, hk, rfl, rfl⟩ := hrel
    by_cases hlt : k < n
    · obtain ⟨a, rfl, ha⟩ := hx.2 k hlt
      have HS : Hid (setN xs (k + 1) = setN xs k ||| 2 ^ (xs.getD k 0).toNat) := Lib.hid rfl
      have hs := setN_lt (xs := xs) (k := k) fun i hi => HB.out i (by omega)
      have hxk := HB.out k hlt
      generalize setN xs k = S at *
      obtain ⟨x, hxx⟩ : ∃ x : Nat, xs.getD k 0 = (x : Int) := ⟨(xs.getD k 0).toNat, by omega⟩
      rw [hxx] at ha HS hxk
      simp only [Int.toNat_natCast] at HS
      clear hxx
      have hp : 2 ^ x < 1024 := Nat.pow_lt_pow_right (n := 10) (by decide) (by omega)
      generalize hP : 2 ^ x = P at *
      have HP := Lib.hid hP
      have HBO : Hid (bits .or .i64 (S : Int) (P : Int) = ((S ||| P : Nat) : Int)) := Lib.hid (bits_orN hs hp)
      clear hP
      have HW : Hid (wrap64 ((2 : Int) ^ x) = (P : Int)) := Lib.hid (by
        have : ((2 : Int) ^ x) = (P : Int) := by rw [← HP.out]; exact (Int.natCast_pow 2 x).symm
        rw [this]; exact w64 (by omega))
      go_wp2
      go_round
      case rel => exact ⟨k + 1, by omega, by go_num, by rw [HW.out, HBO.out, HS.out]⟩
      case measure => simp [intOf]; omega
    · obtain rfl : k = n := by omega
      go_wp2
      go_ret
      exact ⟨rfl, rfl⟩
theorem sCount (A : Option Addr) (n c : Nat) (xs : List BasketR) (S : Nat) (w : World) (hn : n ≤ maxLen) (hS : S < 1024) (hok : ∀ i, i < n → okB xs i = true) (hx : ReadsBasket w A n xs) : Calls Try.prog 96 #[.slice A n c, .int .i64 (S : Nat)] w (Val (.int .i64 (cntTo (setI xs S) n)) w) := by
  unfold maxLen at hn
  have HB := Lib.hid hok
  clear hok
  go_enter Try.func96, Try.ntmps96
  go_wp2
  go_loopw [5, 6] (fun s i wr => ∃ k : Nat, k ≤ n ∧ i = .int .i64 k ∧ s = .int .i64 (cntTo (setI xs S) k) ∧ In w.heap.size w wr) (fun _ i _ => n - (intOf i).toNat)
  case atStart => exact ⟨0, Nat.zero_le _, rfl, rfl, by (repeat (first | exact In.refl _ | assumption | apply In.alloc | apply In.drewN | apply In.drew | (refine In.step ?_ (by assumption))))⟩
  case round =>
    obtain ⟨k, hk, rfl, rfl, hi⟩ := hrel
    by_cases hlt : k < n
    · obtain ⟨a, rfl, B, c', h0, g1, g2, hr⟩ := (hx.in_ hi).2 k hlt
      have HT := Lib.hid (cntTo_t (p := setI xs S) (k := k))
      have HF := Lib.hid (cntTo_f (p := setI xs S) (k := k))
      have hc := cntTo_in (setI xs S) k
      have hok := HB.out k hlt
      have HK : Hid (setI xs S k = decide (setN (xs.getD k z20).f0 (xs.getD k z20).f0.length &&& S = S)) := Lib.hid rfl
      unfold okB at hok
      generalize (xs.getD k z20).f0 = x at *
      generalize cntTo (setI xs S) k = C at *
      have hm : x.length ≤ maxLen := Nat.le_trans g1 g2
      have hrs := ris_set hok
      have hxl := setN_lt hrs
      clear g1 g2 hok
      go_wp2_with fail
      refine (sSet B x.length c' x _ hm hrs hr).mono ?_
      rintro _ _ ⟨rfl, rfl⟩
      clear hrs hr
      generalize setN x x.length = Q at *
      have hand := bits_andN hxl hS
      by_cases h1 : Q &&& S = S
      · rw [h1] at hand
        have HE := Lib.hid (HT.out (by rw [HK.out]; simp [h1]))
        go_wp2
        go_roundw
        case rel => exact ⟨k + 1, by omega, by go_num, v_int (by rw [HE.out]), by (repeat (first | exact In.refl _ | assumption | apply In.alloc | apply In.drewN | apply In.drew | (refine In.step ?_ (by assumption))))⟩
        case measure => simp [intOf]; omega
      · have h1' : ¬ ((Q &&& S : Nat) : Int) = (S : Int) := by omega
        have HE := Lib.hid (HF.out (by rw [HK.out]; simp [h1]))
        clear h1
        generalize Q &&& S = R at *
        go_wp2
        go_roundw
        case rel => exact ⟨k + 1, by omega, by go_num, v_int (by rw [HE.out]), by (repeat (first | exact In.refl _ | assumption | apply In.alloc | apply In.drewN | apply In.drew | (refine In.step ?_ (by assumption))))⟩
        case measure => simp [intOf]; omega
    · obtain rfl : k = n := by omega
      go_wp2
      go_ret
      exact Val.mk' rfl (by (repeat (first | exact In.refl _ | assumption | apply In.alloc | apply In.drewN | apply In.drew | (refine In.step ?_ (by assumption)))))
theorem iHasAll (B : Option Addr) (nb cb : Nat) (bs : List Int) (A : Option Addr) (m c : Nat) (ts : List Int) (w : World) (hnb : nb ≤ maxLen) (hm : m ≤ maxLen) (hb : ReadsI w B nb bs) (hx : ReadsI w A m ts) : Calls Try.prog 175 #[.agg #[.slice B nb cb], .slice A m c] w (Val (.bool (hasAllB bs ts m)) w) := by
  unfold maxLen at hm
  have HNB := Lib.hid hnb
  clear hnb
  have hbl := hb.1
  subst hbl
  have HBR := Lib.hid (fun W (h : In w.heap.size w W) => hb.below h.below (Nat.le_refl _))
  have kb0 : Blk (w.alloc (.cells #[.slice B bs.length cb] 123)) w.heap.size 123 #[.slice B bs.length cb] := Blk.new w _ _
  clear hb
  go_enter Try.func175, Try.ntmps175
  go_wp2
  go_loopw [9] (fun i wr => ∃ k : Nat, k ≤ m ∧ i = .int .i64 k ∧ (∀ i, i < k → hasN bs (ts.getD i 0) = true) ∧ In w.heap.size w wr ∧ Blk wr w.heap.size 123 #[.slice B bs.length cb]) (fun i _ => m - (intOf i).toNat)
  case atStart => exact ⟨0, Nat.zero_le _, rfl, fun i hi => absurd hi (Nat.not_lt_zero _), by (repeat (first | exact In.refl _ | assumption | apply In.alloc | apply In.drewN | apply In.drew | (refine In.step ?_ (by assumption)))), kb0⟩
  case round =>
    clear kb0
    obtain ⟨k, hk, rfl, ho, hi, kb⟩ := hrel
    have HO := Lib.hid ho
    have hcb := kb.cell 0
    simp at hcb
    clear ho
    by_cases hlt : k < m
    · obtain ⟨a, rfl, ha⟩ := (hx.below hi.below (Nat.le_refl _)).2 k hlt
      have HK : Hid (hasN bs (ts.getD k 0) = decide (0 ≤ idxOf bs (ts.getD k 0) bs.length)) := Lib.hid rfl
      have HA : Hid (hasN bs (ts.getD k 0) = false → hasAllB bs ts m = false) := Lib.hid fun h => allOk_f _ _ k hlt h
      generalize hx0 : ts.getD k 0 = t at *
      have HX := Lib.hid hx0
      clear hx0
      go_wp2_with fail
      refine (iContains B bs.length cb bs t _ HNB.out (HBR.out _ hi)).mono ?_
      rintro _ _ ⟨rfl, rfl⟩
      generalize decide (0 ≤ idxOf bs t bs.length) = b at *
      cases b
      case true =>
        have HT : Hid (hasN bs t = true) := Lib.hid HK.out
        go_wp2
        go_roundw
        case rel => exact ⟨k + 1, by omega, by go_num, fun i hi => by
          by_cases e : i = k
          · subst e; rw [HX.out]; exact HT.out
          · exact HO.out i (by omega), by (repeat (first | exact In.refl _ | assumption | apply In.alloc | apply In.drewN | apply In.drew | (refine In.step ?_ (by assumption)))), by (with_reducible (repeat (first | assumption | apply Blk.drewN | apply Blk.drew | apply Blk.alloc)))⟩
        case measure => simp [intOf]; omega
      case false =>
        have HF : Hid (hasAllB bs ts m = false) := Lib.hid (HA.out HK.out)
        go_wp2
        go_ret
        exact Val.mk' (v_bool HF.out.symm) (by (repeat (first | exact In.refl _ | assumption | apply In.alloc | apply In.drewN | apply In.drew | (refine In.step ?_ (by assumption)))))
    · obtain rfl : k = m := by omega
      go_wp2
      go_ret
      exact Val.mk' (v_bool (allOk_t _ _ HO.out).symm) (by (repeat (first | exact In.refl _ | assumption | apply In.alloc | apply In.drewN | apply In.drew | (refine In.step ?_ (by assumption)))))
theorem iCountWith (A : Option Addr) (n c : Nat) (xs : List BasketR) (B : Option Addr) (m d : Nat) (ts : List Int) (w : World) (hn : n ≤ maxLen) (hx : ReadsBasket w A n xs) (hm : m ≤ maxLen) (ht : ReadsI w B m ts) : Calls Try.prog 99 #[.slice A n c, .slice B m d] w (Val (.int .i64 (cntV n xs m ts)) w) := by
  have HV : Hid (cntV n xs m ts = if bsB n xs && risB ts 1 9 m then cntTo (hasI xs ts m) n else -1) := Lib.hid rfl
  go_enter Try.func99, Try.ntmps99
  go_wp2_with fail
  refine (iBasketsOk A n c xs _ hn hx).mono ?_
  rintro _ w1 ⟨rfl, hb1⟩
  cases h1 : bsB n xs
  · go_wp2
    go_ret
    exact Val.mk' (v_int (by rw [HV.out, h1]; rfl)) (by (repeat (first | exact In.refl _ | assumption | apply In.alloc | apply In.drewN | apply In.drew | (refine In.step ?_ (by assumption)))))
  go_wp2_with fail
  refine (iBought B m d ts _ hm (ht.below hb1 (Nat.le_refl _))).mono ?_
  rintro _ w2 ⟨rfl, hb2⟩
  cases h2 : risB ts 1 9 m
  · go_wp2
    go_ret
    exact Val.mk' (v_int (by rw [HV.out, h1, h2]; rfl)) (by (repeat (first | exact In.refl _ | assumption | apply In.alloc | apply In.drewN | apply In.drew | (refine In.step ?_ (by assumption)))))
  have i2 : In w.heap.size w w2 := by (repeat (first | exact In.refl _ | assumption | apply In.alloc | apply In.drewN | apply In.drew | (refine In.step ?_ (by assumption))))
  have HE : Hid (cntV n xs m ts = cntTo (hasI xs ts m) n) := Lib.hid (by rw [HV.out, h1, h2]; rfl)
  have HH := Lib.hid (fun W (h : In w.heap.size w W) => ht.below h.below (Nat.le_refl _))
  have HM := Lib.hid hm
  have hn30 := (bsB_at h1).1
  clear HV ht hm hn
  go_wp2
  go_loopw [5, 18] (fun s i wr => ∃ k : Nat, k ≤ n ∧ i = .int .i64 k ∧ s = .int .i64 (cntTo (hasI xs ts m) k) ∧ In w.heap.size w wr) (fun _ i _ => n - (intOf i).toNat)
  case atStart => exact ⟨0, Nat.zero_le _, rfl, rfl, by (repeat (first | exact In.refl _ | assumption | apply In.alloc | apply In.drewN | apply In.drew | (refine In.step ?_ (by assumption))))⟩
  case round =>
    clear i2 hb1 hb2
    obtain ⟨k, hk, rfl, rfl, hi⟩ := hrel
    by_cases hlt : k < n
    · obtain ⟨a, rfl, B, c', h0, g1, g2, hr⟩ := (hx.in_ hi).2 k hlt
      have HT := Lib.hid (cntTo_t (p := hasI xs ts m) (k := k))
      have HF := Lib.hid (cntTo_f (p := hasI xs ts m) (k := k))
      have hc := cntTo_in (hasI xs ts m) k
      have HK : Hid (hasI xs ts m k = hasAllB (xs.getD k z20).f0 ts m) := Lib.hid rfl
      generalize (xs.getD k z20).f0 = x at *
      generalize cntTo (hasI xs ts m) k = C at *
      have hml : x.length ≤ maxLen := Nat.le_trans g1 g2
      have HR := Lib.hid (fun o => iHasAll B x.length c' x _ m d ts (wr.alloc o) hml HM.out (hr.alloc o) (HH.out _ (hi.alloc o)))
      clear g1 g2 hr
      go_wp2_with fail
      refine (HR.out _).mono ?_
      rintro _ w3 ⟨rfl, hb3⟩
      cases h1 : hasAllB x ts m
      · have HE := Lib.hid (HF.out (by rw [HK.out]; exact h1))
        go_wp2
        go_roundw
        case rel => exact ⟨k + 1, by omega, by go_num, v_int (by rw [HE.out]), by (repeat (first | exact In.refl _ | assumption | apply In.alloc | apply In.drewN | apply In.drew | (refine In.step ?_ (by assumption))))⟩
        case measure => simp [intOf]; omega
      · have HE := Lib.hid (HT.out (by rw [HK.out]; exact h1))
        go_wp2
        go_roundw
        case rel => exact ⟨k + 1, by omega, by go_num, v_int (by rw [HE.out]), by (repeat (first | exact In.refl _ | assumption | apply In.alloc | apply In.drewN | apply In.drew | (refine In.step ?_ (by assumption))))⟩
        case measure => simp [intOf]; omega
    · obtain rfl : k = n := by omega
      go_wp2
      go_ret
      exact Val.mk' (v_int HE.out.symm) (by (repeat (first | exact In.refl _ | assumption | apply In.alloc | apply In.drewN | apply In.drew | (refine In.step ?_ (by assumption)))))
end Go.Proofs.Ytmkfnhgaiheckaa
