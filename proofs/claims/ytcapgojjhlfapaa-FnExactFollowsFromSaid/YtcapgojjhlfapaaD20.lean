/- Chapter 20: NextThing, the values and the model. -/
import Derived.Test.YtcapgojjhlfapaaC20
namespace Go.Proofs.Ytcapgojjhlfapaa
open Go.ChangeShapes Go.WideShapes Go.ChangeAt Go.RowKit
set_option linter.unusedVariables false
set_option linter.unusedSimpArgs false
set_option maxHeartbeats 2000000

/-- baskets among the first k that have all of ts and x, where x is not one of ts -/
def bothI (xs : List BasketR) (ts : List Int) (m : Nat) (x : Int) (i : Nat) : Bool := hasI xs ts m i && hasN (xs.getD i z20).f0 x
def cW (xs : List BasketR) (ts : List Int) (m : Nat) (x : Int) (k : Nat) : Int := if hasN ts x then 0 else cntTo (bothI xs ts m x) k
def nb (xs : List BasketR) (ts : List Int) (m n : Nat) : Nat → Int × Int
  | 0 => (-1, 0)
  | t + 1 => if (nb xs ts m n t).2 < cW xs ts m ((t + 1 : Nat) : Int) n then (((t + 1 : Nat) : Int), cW xs ts m ((t + 1 : Nat) : Int) n) else nb xs ts m n t
def nextV (n : Nat) (xs : List BasketR) (m : Nat) (ts : List Int) : Int := if cntV n xs m ts ≤ 0 then -1 else (nb xs ts m n 9).1
theorem cntTo_le {p q : Nat → Bool} (n : Nat) (h : ∀ i, i < n → p i = true → q i = true) : cntTo p n ≤ cntTo q n := by
  induction n with
  | zero => exact Int.le_refl _
  | succ n ih =>
    have h1 := ih fun i hi => h i (by omega)
    have h2 := h n (by omega)
    rw [cntTo, cntTo]
    cases hp : p n
    · simp; split <;> omega
    · rw [h2 hp]; simp; omega
theorem cW_in (xs : List BasketR) (ts : List Int) (m : Nat) (x : Int) (k : Nat) : 0 ≤ cW xs ts m x k ∧ cW xs ts m x k ≤ cntTo (hasI xs ts m) k := by
  have h1 := cntTo_in (bothI xs ts m x) k
  have h2 := cntTo_in (hasI xs ts m) k
  have h3 := cntTo_le (p := bothI xs ts m x) (q := hasI xs ts m) k fun i _ h => by simp only [bothI, Bool.and_eq_true] at h; exact h.1
  unfold cW
  split <;> omega
theorem nb_in (xs : List BasketR) (ts : List Int) (m n t : Nat) : 0 ≤ (nb xs ts m n t).2 ∧ (nb xs ts m n t).2 ≤ n := by
  induction t with
  | zero => simp [nb]
  | succ t ih =>
    rw [nb]
    have h1 := cW_in xs ts m ((t + 1 : Nat) : Int) n
    have h2 := cntTo_in (hasI xs ts m) n
    split
    · simp only []; omega
    · exact ih
theorem nb_zero {xs : List BasketR} {ts : List Int} {m n : Nat} (h : cntTo (hasI xs ts m) n = 0) (t : Nat) : nb xs ts m n t = (-1, 0) := by
  induction t with
  | zero => rfl
  | succ t ih =>
    have h1 := cW_in xs ts m ((t + 1 : Nat) : Int) n
    rw [nb, ih, if_neg (by simp only []; omega)]
theorem shr_bit : ∀ (S : Fin 1024) (t : Fin 10), bits .and .i64 (((S : Nat) : Int) / 2 ^ (t : Nat)) 1 = if (S : Nat).testBit (t : Nat) then 1 else 0 := by decide +kernel
theorem hasN_app20 (bs : List Int) (u v : Int) : hasN (bs ++ [u]) v = (hasN bs v || (u == v)) := by
  rw [Bool.eq_iff_iff, Bool.or_eq_true, beq_iff_eq, hasN_iff, hasN_iff]
  constructor
  · rintro ⟨i, hi, hv⟩
    simp at hi
    by_cases e : i < bs.length
    · refine .inl ⟨i, e, ?_⟩
      rw [← hv, List.getD_eq_getElem?_getD, List.getD_eq_getElem?_getD, List.getElem?_append_left e]
    · obtain rfl : i = bs.length := by omega
      exact .inr (by simpa using hv)
  · rintro (⟨i, hi, hv⟩ | rfl)
    · exact ⟨i, by simp; omega, by rw [← hv, List.getD_eq_getElem?_getD, List.getD_eq_getElem?_getD, List.getElem?_append_left hi]⟩
    · exact ⟨bs.length, by simp, by simp⟩
theorem allOk_congr {p q : Nat → Bool} (n : Nat) (h : ∀ i, i < n → p i = q i) : allOk p n = allOk q n := by
  induction n with
  | zero => rfl
  | succ n ih => rw [allOk, allOk, ih fun i hi => h i (by omega), h n (by omega)]
theorem setN_app (ts : List Int) (u : Int) : ∀ k, k ≤ ts.length → setN (ts ++ [u]) k = setN ts k := by
  intro k
  induction k with
  | zero => intro _; rfl
  | succ k ih =>
    intro hk
    rw [setN, setN, ih (by omega), List.getD_eq_getElem?_getD, List.getD_eq_getElem?_getD, List.getElem?_append_left (by omega)]
theorem setN_app1 (ts : List Int) (u : Nat) : setN (ts ++ [(u : Int)]) (ts.length + 1) = setN ts ts.length ||| 2 ^ u := by
  rw [setN, setN_app ts u ts.length (Nat.le_refl _)]
  congr 2
  simp
theorem hasAll_app (bs ts : List Int) (u : Int) : hasAllB bs (ts ++ [u]) (ts.length + 1) = (hasAllB bs ts ts.length && hasN bs u) := by
  unfold hasAllB
  rw [allOk]
  congr 1
  · refine allOk_congr _ fun i hi => ?_
    rw [List.getD_eq_getElem?_getD, List.getD_eq_getElem?_getD, List.getElem?_append_left hi]
  · simp
/-- the model's number for one thing more -/
theorem cnt_more {xs : List BasketR} {ts : List Int} {m n t : Nat} (hl : ts.length = m) (ht : t ≤ 9) (hb : ∀ i, i < n → okB xs i = true) (h9 : ∀ i, i < m → 0 ≤ ts.getD i 0 ∧ ts.getD i 0 ≤ 9) :
    cntTo (setI xs (setN ts m ||| 2 ^ t)) n = cntTo (bothI xs ts m t) n := by
  subst hl
  rw [← setN_app1, setI_has (ts := ts ++ [(t : Int)]) hb (fun i hi => by
    by_cases e : i < ts.length
    · rw [List.getD_eq_getElem?_getD, List.getElem?_append_left e, ← List.getD_eq_getElem?_getD]; exact h9 i e
    · obtain rfl : i = ts.length := by omega
      simp; omega)]
  exact cntTo_congr n fun i _ => hasAll_app _ _ _
theorem bit_has {ts : List Int} {m t : Nat} (hl : ts.length = m) (h9 : ∀ i, i < m → 0 ≤ ts.getD i 0 ∧ ts.getD i 0 ≤ 9) : (setN ts m).testBit t = hasN ts t := by
  subst hl
  rw [Bool.eq_iff_iff, setN_bit, hasN_iff]
  constructor
  · rintro ⟨i, hi, he⟩
    have := h9 i hi
    exact ⟨i, hi, by omega⟩
  · rintro ⟨i, hi, he⟩
    exact ⟨i, hi, by omega⟩
set_option maxHeartbeats 4000000 in
theorem sNextThing (A : Option Addr) (n c : Nat) (xs : List BasketR) (B : Option Addr) (m d : Nat) (ts : List Int) (w : World) (hn : n ≤ maxLen) (hx : ReadsBasket w A n xs) (hm : m ≤ maxLen) (ht : ReadsI w B m ts) : Calls Try.prog 30 #[.slice A n c, .slice B m d] w (Val (.int .i64 (nextV n xs m ts)) w) := by
  have HV : Hid (nextV n xs m ts = if cntV n xs m ts ≤ 0 then -1 else (nb xs ts m n 9).1) := Lib.hid rfl
  have hC : cntV n xs m ts = if bsB n xs && risB ts 1 9 m then cntTo (hasI xs ts m) n else -1 := rfl
  have hlen := ht.1
  by_cases h0 : cntV n xs m ts ≤ 0
  · have HE := Lib.hid (HV.out.trans (if_pos h0))
    clear hC hlen
    go_enter Try.func30, Try.ntmps30
    go_wp2_with fail
    refine (sCountWith A n c xs B m d ts _ hn hx hm ht).mono ?_
    rintro _ w1 ⟨rfl, hb1⟩
    generalize cntV n xs m ts = V at *
    go_wp2
    go_ret
    exact Val.mk' (v_int HE.out.symm) (by (repeat (first | exact In.refl _ | assumption | apply In.alloc | apply In.drewN | apply In.drew | (refine In.step ?_ (by assumption)))))
  have hok : (bsB n xs && risB ts 1 9 m) = true := by
    cases hh : (bsB n xs && risB ts 1 9 m)
    · rw [hh] at hC; simp at hC; omega
    · rfl
  rw [Bool.and_eq_true] at hok
  have hn30 := (bsB_at hok.1).1
  have HOK := Lib.hid (bsB_at hok.1).2
  have h9 : ∀ i, i < m → 0 ≤ ts.getD i 0 ∧ ts.getD i 0 ≤ 9 := fun i hi => by have := risB_in hok.2 i hi; omega
  have HE := Lib.hid (HV.out.trans (if_neg h0))
  have HMORE : Hid (∀ t : Nat, t ≤ 9 → cntTo (setI xs (setN ts m ||| 2 ^ t)) n = cntTo (bothI xs ts m t) n) := Lib.hid fun t h => cnt_more hlen h HOK.out h9
  have HBIT : Hid (∀ t : Nat, (setN ts m).testBit t = hasN ts t) := Lib.hid fun t => bit_has hlen h9
  have hSl := setN_lt h9
  have hS := Lib.hid (sSet B m d ts)
  have H9 := Lib.hid h9
  have HXX := Lib.hid hx
  clear hC hlen hok HV h9
  go_enter Try.func30, Try.ntmps30
  go_wp2_with fail
  refine (sCountWith A n c xs B m d ts _ hn hx hm ht).mono ?_
  rintro _ w1 ⟨rfl, hb1⟩
  have i1 : In w.heap.size w w1 := by (repeat (first | exact In.refl _ | assumption | apply In.alloc | apply In.drewN | apply In.drew | (refine In.step ?_ (by assumption))))
  generalize cntV n xs m ts = V at *
  go_wp2_with fail
  refine (hS.out _ hm H9.out (ht.below i1.below (Nat.le_refl _))).mono ?_
  rintro _ _ ⟨rfl, rfl⟩
  generalize setN ts m = S at *
  clear hx ht hb1 hS
  go_wp2
  go_loopw [6, 7, 8] (fun b q i wr => ∃ t : Nat, t ≤ 9 ∧ i = .int .i64 ((t + 1 : Nat) : Int) ∧ b = .int .i64 (nb xs ts m n t).1 ∧ q = .int .i64 (nb xs ts m n t).2 ∧ In w.heap.size w wr) (fun _ _ i _ => 10 - (intOf i).toNat)
  case atStart => exact ⟨0, by omega, rfl, rfl, rfl, i1⟩
  case round =>
    clear i1
    obtain ⟨t, h10, rfl, rfl, rfl, hi⟩ := hrel
    have hq := nb_in xs ts m n t
    have HST : Hid ((nb xs ts m n t).2 < cW xs ts m ((t + 1 : Nat) : Int) n → nb xs ts m n (t + 1) = (((t + 1 : Nat) : Int), cW xs ts m ((t + 1 : Nat) : Int) n)) := Lib.hid fun h => by rw [nb, if_pos h]
    have HSF : Hid (¬ (nb xs ts m n t).2 < cW xs ts m ((t + 1 : Nat) : Int) n → nb xs ts m n (t + 1) = nb xs ts m n t) := Lib.hid fun h => by rw [nb, if_neg h]
    have HN9 : Hid (t = 9 → (nb xs ts m n 9).1 = (nb xs ts m n t).1) := Lib.hid fun h => by rw [h]
    by_cases hlt : t < 9
    · have hCW : cW xs ts m ((t + 1 : Nat) : Int) n = if S.testBit (t + 1) then 0 else cntTo (setI xs (S ||| 2 ^ (t + 1))) n := by
        rw [cW, HBIT.out, HMORE.out (t + 1) (by omega)]
      have HSH : Hid (bits .and .i64 ((S : Int) / 2 ^ (t + 1)) 1 = if S.testBit (t + 1) then 1 else 0) := Lib.hid (shr_bit ⟨S, hSl⟩ ⟨t + 1, by omega⟩)
      have hc2 := cntTo_in (setI xs (S ||| 2 ^ (t + 1))) n
      have hp : 2 ^ (t + 1) < 1024 := Nat.pow_lt_pow_right (n := 10) (by decide) (by omega)
      have hor : S ||| 2 ^ (t + 1) < 1024 := Nat.or_lt_two_pow (n := 10) hSl hp
      have HCNT := Lib.hid (fun W (h : ReadsBasket W A n xs) => sCount A n c xs (S ||| 2 ^ (t + 1)) W hn hor HOK.out h)
      have HBO := Lib.hid (bits_orN hSl hp)
      generalize hT : t + 1 = T at *
      have HT := Lib.hid hT
      generalize hP : 2 ^ T = P at *
      have HP := Lib.hid hP
      generalize cntTo (setI xs (S ||| P)) n = N at *
      generalize S ||| P = SP at *
      generalize cW xs ts m (T : Int) n = Cw at *
      generalize nb xs ts m n t = r at *
      obtain ⟨r1, r2⟩ := r
      simp only at hq HST HSF HN9
      have hTb : 1 ≤ T ∧ T ≤ 9 := by omega
      clear hT hP HMORE HBIT hlt
      have HW : Hid (wrap64 ((2 : Int) ^ T) = (P : Int)) := Lib.hid (by
        have : ((2 : Int) ^ T) = (P : Int) := by rw [← HP.out]; exact (Int.natCast_pow 2 T).symm
        rw [this]; exact w64 (by omega))
      have i2 := HXX.out.in_ hi
      have HBT := Lib.hid HSH.out
      go_wp2_with fail
      rw [HW.out, HBO.out]
      refine (HCNT.out _ i2).mono ?_
      rintro _ w2 ⟨rfl, hb2⟩
      have hi2 := hi.step hb2
      clear hb2 i2
      cases hbit : S.testBit T
      · have h1 : bits .and .i64 ((S : Int) / 2 ^ T) 1 = 0 := by rw [HSH.out, hbit]; rfl
        rw [hbit] at hCW
        simp only [Bool.false_eq_true, if_false] at hCW
        subst hCW
        clear HSH HBT hbit
        by_cases hgt : r2 < Cw
        · have HG := Lib.hid (HST.out hgt)
          go_wp2
          go_roundw
          case rel => exact ⟨t + 1, by have := HT.out; omega, by rw [HT.out]; go_num, by rw [HT.out, HG.out], by rw [HT.out, HG.out], hi2⟩
          case measure => simp [intOf]; omega
        · have HG := Lib.hid (HSF.out (by omega))
          have hle : Cw ≤ r2 := by omega
          go_wp2
          go_roundw
          case rel => exact ⟨t + 1, by have := HT.out; omega, by rw [HT.out]; go_num, by rw [HT.out, HG.out], by rw [HT.out, HG.out], hi2⟩
          case measure => simp [intOf]; omega
      · have h1 : bits .and .i64 ((S : Int) / 2 ^ T) 1 = 1 := by rw [HSH.out, hbit]; rfl
        rw [hbit] at hCW
        simp only [if_true] at hCW
        subst hCW
        clear HSH HBT hbit
        have HG := Lib.hid (HSF.out (by omega))
        go_wp2
        go_roundw
        case rel => exact ⟨t + 1, by have := HT.out; omega, by rw [HT.out]; go_num, by rw [HT.out, HG.out], by rw [HT.out, HG.out], hi2⟩
        case measure => simp [intOf]; omega
    · obtain rfl : t = 9 := by omega
      go_wp2
      go_ret
      exact Val.mk' (v_int HE.out.symm) (by (repeat (first | exact In.refl _ | assumption | apply In.alloc | apply In.drewN | apply In.drew | (refine In.step ?_ (by assumption)))))
end Go.Proofs.Ytcapgojjhlfapaa
