/- Chapter 33: BeatsAll, HasCircle. -/
import Derived.Test.YtbbinndegcnedacD33
namespace Go.Proofs.Ytbbinndegcnedac
open Go.ChangeShapes Go.WideShapes Go.ChangeAt Go.RowKit
set_option linter.unusedVariables false
set_option linter.unusedSimpArgs false
set_option maxHeartbeats 2000000

def winB (m : Nat) (vs : List IntSR) (n a b : Int) : Bool := decide ((m : Int) < 2 * prefV m vs n a b)
theorem winB_self (m : Nat) (vs : List IntSR) (n a : Int) : winB m vs n a a = false := by simp [winB, win_self] <;> omega
def fstP (p : Nat → Bool) : Nat → Int
  | 0 => -1
  | k + 1 => if 0 ≤ fstP p k then fstP p k else if p k then (k : Int) else -1
theorem fstP_no {p : Nat → Bool} {n : Nat} (h : ∀ i, i < n → p i = false) : fstP p n = -1 := by
  induction n with
  | zero => rfl
  | succ n ih => rw [fstP, ih fun i hi => h i (by omega), if_neg (by omega), if_neg (by rw [h n (by omega)]; simp)]
theorem fstP_at {p : Nat → Bool} {n k : Nat} (hk : k < n) (h : ∀ i, i < k → p i = false) (hp : p k = true) : fstP p n = k := by
  induction n with
  | zero => omega
  | succ n ih =>
    rw [fstP]
    by_cases e : k = n
    · subst e
      rw [fstP_no h, if_neg (by omega), if_pos hp]
    · rw [ih (by omega), if_pos (by omega)]
def beW (m : Nat) (vs : List IntSR) (q a b : Nat) : Bool := decide (a = b) || winB m vs q a b
def allW (m : Nat) (vs : List IntSR) (q a : Nat) : Bool := allOk (beW m vs q a) q
def bestA (m : Nat) (vs : List IntSR) (n : Int) : Int := if votesB m vs n then fstP (allW m vs n.toNat) n.toNat else -1
def wG (m : Nat) (vs : List IntSR) (q a b : Nat) : Int := if winB m vs q a b then 1 else 0
theorem wG_in (m : Nat) (vs : List IntSR) (q a b : Nat) : 0 ≤ wG m vs q a b ∧ wG m vs q a b ≤ 1 := by unfold wG; split <;> omega
theorem cnt_lo (m : Nat) (vs : List IntSR) (q a k : Nat) (h : k ≤ a) : sumTo (wG m vs q a) k ≤ k ∧ (sumTo (wG m vs q a) k = k ↔ allOk (beW m vs q a) k = true) := by
  induction k with
  | zero => simp [sumTo, allOk]
  | succ k ih =>
    obtain ⟨h1, h2⟩ := ih (by omega)
    have h3 := wG_in m vs q a k
    rw [sumTo_succ, allOk, Bool.and_eq_true, ← h2]
    have hb : beW m vs q a k = true ↔ wG m vs q a k = 1 := by
      unfold beW wG
      rw [show decide (a = k) = false by simp; omega, Bool.false_or]
      split <;> simp_all
    rw [hb]
    omega
theorem cnt_hi (m : Nat) (vs : List IntSR) (q a k : Nat) (h : a < k) : sumTo (wG m vs q a) k ≤ k - 1 ∧ (sumTo (wG m vs q a) k = k - 1 ↔ allOk (beW m vs q a) k = true) := by
  induction k with
  | zero => omega
  | succ k ih =>
    have h3 := wG_in m vs q a k
    rw [sumTo_succ, allOk, Bool.and_eq_true]
    by_cases e : k = a
    · subst e
      obtain ⟨h1, h2⟩ := cnt_lo m vs q k k (Nat.le_refl _)
      have hz : wG m vs q k k = 0 := by unfold wG; rw [if_neg]; rw [winB_self]; simp
      have hb : beW m vs q k k = true := by simp [beW]
      rw [← h2, hb, hz]
      refine ⟨by omega, ⟨fun h => ⟨by omega, rfl⟩, fun h => by have := h.1; omega⟩⟩
    · obtain ⟨h1, h2⟩ := ih (by omega)
      have hb : beW m vs q a k = true ↔ wG m vs q a k = 1 := by
        unfold beW wG
        rw [show decide (a = k) = false by simp; omega, Bool.false_or]
        split <;> simp_all
      rw [← h2, hb]
      omega
theorem cnt_all {m : Nat} {vs : List IntSR} {q a : Nat} (h : a < q) : allW m vs q a = (sumTo (wG m vs q a) q == (q : Int) - 1) := by
  have := (cnt_hi m vs q a q h).2
  rw [Bool.eq_iff_iff, beq_iff_eq]
  exact this.symm
def crB (m : Nat) (vs : List IntSR) (q a b c : Nat) : Bool := winB m vs q a b && winB m vs q b c && winB m vs q c a
def circB (m : Nat) (vs : List IntSR) (n : Int) : Bool := votesB m vs n && !(allOk (fun a => allOk (fun b => allOk (fun c => !crB m vs n.toNat a b c) n.toNat) n.toNat) n.toNat)
theorem swins (A : Option Addr) (m c : Nat) (vs : List IntSR) (n a b : Int) (w : World) (hm : m ≤ 15) (hx : ReadsIntS w A m vs) : Calls Try.prog 46 #[.slice A m c, .int .i64 n, .int .i64 a, .int .i64 b] w (Val (.bool (winB m vs n a b)) w) := by
  have hp := prefV_in m vs n a b
  have HW : Hid (winB m vs n a b = decide ((m : Int) < 2 * prefV m vs n a b)) := Lib.hid rfl
  go_enter Try.func46, Try.ntmps46
  go_wp2_with fail
  refine (sPrefers A m c vs n a b _ (by unfold maxLen; omega) hx).mono ?_
  rintro _ w1 ⟨rfl, hb1⟩
  generalize prefV m vs n a b = p at *
  go_wp2
  go_ret
  exact Val.mk' (v_bool HW.out.symm) (by (repeat (first | exact In.refl _ | assumption | apply In.alloc | apply In.drewN | apply In.drew | (refine In.step ?_ (by assumption)))))
theorem iwins (A : Option Addr) (m c : Nat) (vs : List IntSR) (n a b : Int) (w : World) (hm : m ≤ 15) (hx : ReadsIntS w A m vs) : Calls Try.prog 49 #[.slice A m c, .int .i64 n, .int .i64 a, .int .i64 b] w (Val (.bool (winB m vs n a b)) w) := by
  have hp := prefV_in m vs n a b
  have HW : Hid (winB m vs n a b = decide ((m : Int) < 2 * prefV m vs n a b)) := Lib.hid rfl
  go_enter Try.func49, Try.ntmps49
  go_wp2_with fail
  refine (iPrefers A m c vs n a b _ (by unfold maxLen; omega) hx).mono ?_
  rintro _ w1 ⟨rfl, hb1⟩
  generalize prefV m vs n a b = p at *
  go_wp2
  go_ret
  exact Val.mk' (v_bool HW.out.symm) (by (repeat (first | exact In.refl _ | assumption | apply In.alloc | apply In.drewN | apply In.drew | (refine In.step ?_ (by assumption)))))
theorem iBeatsAll (A : Option Addr) (m c : Nat) (vs : List IntSR) (n : Int) (w : World) (hm : m ≤ maxLen) (hx : ReadsIntS w A m vs) : Calls Try.prog 14 #[.slice A m c, .int .i64 n] w (Val (i64 (bestA m vs n)) w) := by
  cases h0 : votesB m vs n
  · have HV : Hid (bestA m vs n = -1) := Lib.hid (by simp [bestA, h0])
    go_enter Try.func14, Try.ntmps14
    go_wp2_with fail
    refine (iVotesOk A m c vs n _ hm hx).mono ?_
    rintro _ w1 ⟨rfl, hb1⟩
    rw [h0]
    go_wp2
    go_ret
    exact Val.mk' (v_int HV.out.symm) (by (repeat (first | exact In.refl _ | assumption | apply In.alloc | apply In.drewN | apply In.drew | (refine In.step ?_ (by assumption)))))
  obtain ⟨n1, n2, m1, m2, hv⟩ := votes_at h0
  obtain ⟨q, rfl⟩ : ∃ q : Nat, n = q := ⟨n.toNat, by omega⟩
  have HV : Hid (bestA m vs q = fstP (allW m vs q) q) := Lib.hid (by simp [bestA, h0])
  clear hv
  go_enter Try.func14, Try.ntmps14
  go_wp2_with fail
  refine (iVotesOk A m c vs q _ hm hx).mono ?_
  rintro _ w1 ⟨rfl, hb1⟩
  rw [h0]
  have i1 : In w.heap.size w w1 := In.step (by (repeat (first | exact In.refl _ | assumption | apply In.alloc | apply In.drewN | apply In.drew | (refine In.step ?_ (by assumption))))) hb1
  clear hb1 h0
  go_wp2
  go_loopw [13] (fun i wr => ∃ a : Nat, a ≤ q ∧ i = .int .i64 a ∧ (∀ i, i < a → allW m vs q i = false) ∧ In w.heap.size w wr) (fun i _ => q - (intOf i).toNat)
  case atStart => exact ⟨0, Nat.zero_le _, rfl, fun i hi => absurd hi (Nat.not_lt_zero _), by (repeat (first | exact In.refl _ | assumption | apply In.alloc | apply In.drewN | apply In.drew | (refine In.step ?_ (by assumption))))⟩
  case round =>
    clear i1
    obtain ⟨a, ha, rfl, ho, hi⟩ := hrel
    have HO := Lib.hid ho
    clear ho
    by_cases hlt : a < q
    · obtain ⟨w8, rfl⟩ : ∃ w8, w8 = wr := ⟨_, rfl⟩
      have HCA := Lib.hid (cnt_all (m := m) (vs := vs) hlt)
      go_wp2
      go_loopw [6, 17] (fun s j wr2 => ∃ b : Nat, b ≤ q ∧ j = .int .i64 b ∧ s = .int .i64 (sumTo (wG m vs q a) b) ∧ In w.heap.size w wr2) (fun _ j _ => q - (intOf j).toNat)
      case atStart => exact ⟨0, Nat.zero_le _, rfl, rfl, by (repeat (first | exact In.refl _ | assumption | apply In.alloc | apply In.drewN | apply In.drew | (refine In.step ?_ (by assumption))))⟩
      case round =>
        obtain ⟨b, hb, rfl, rfl, hi2⟩ := hrel
        have HU := Lib.hid (sumTo_succ (wG m vs q a) b)
        obtain ⟨d1, d2⟩ := sumTo_bd (wG m vs q a) 1 b fun i _ => wG_in m vs q a i
        by_cases hlt2 : b < q
        · have HG : Hid (wG m vs q a b = if winB m vs q a b then 1 else 0) := Lib.hid rfl
          generalize sumTo (wG m vs q a) b = s at *
          go_wp2_with fail
          refine (iwins A m c vs q a b _ (by omega) (hx.in_ (by (repeat (first | exact In.refl _ | assumption | apply In.alloc | apply In.drewN | apply In.drew | (refine In.step ?_ (by assumption))))))).mono ?_
          rintro _ w2 ⟨rfl, hb2⟩
          cases hw : winB m vs q a b
          all_goals
            rw [hw] at HG
            go_wp2
            go_roundw
            case rel => exact ⟨b + 1, by omega, by go_num, v_int (by rw [HU.out, HG.out]; simp), by (repeat (first | exact In.refl _ | assumption | apply In.alloc | apply In.drewN | apply In.drew | (refine In.step ?_ (by assumption))))⟩
            case measure => simp [intOf]; omega
        · obtain rfl : b = q := by omega
          generalize sumTo (wG m vs b a) b = s at *
          cases hc : (s == (b : Int) - 1)
          · have HN : Hid (allW m vs b a = false) := Lib.hid (by rw [HCA.out, hc])
            go_wp2
            go_roundw
            case rel => exact ⟨a + 1, by omega, by go_num, fun i hi => by
                by_cases e : i = a
                · subst e; exact HN.out
                · exact HO.out i (by omega), by (repeat (first | exact In.refl _ | assumption | apply In.alloc | apply In.drewN | apply In.drew | (refine In.step ?_ (by assumption))))⟩
            case measure => simp [intOf]; omega
          · have HN : Hid (fstP (allW m vs b) b = a) := Lib.hid (fstP_at hlt HO.out (by rw [HCA.out, hc]))
            go_wp2
            go_ret
            exact Val.mk' (v_int (by rw [HV.out, HN.out])) (by (repeat (first | exact In.refl _ | assumption | apply In.alloc | apply In.drewN | apply In.drew | (refine In.step ?_ (by assumption)))))
    · obtain rfl : a = q := by omega
      go_wp2
      go_ret
      exact Val.mk' (v_int (by rw [HV.out, fstP_no HO.out])) (by (repeat (first | exact In.refl _ | assumption | apply In.alloc | apply In.drewN | apply In.drew | (refine In.step ?_ (by assumption)))))
theorem sBeatsAll (A : Option Addr) (m c : Nat) (vs : List IntSR) (n : Int) (w : World) (hm : m ≤ maxLen) (hx : ReadsIntS w A m vs) : Calls Try.prog 12 #[.slice A m c, .int .i64 n] w (Val (i64 (bestA m vs n)) w) := by
  cases h0 : votesB m vs n
  · have HV : Hid (bestA m vs n = -1) := Lib.hid (by simp [bestA, h0])
    by_cases hn : 0 < n
    all_goals
      go_enter Try.func12, Try.ntmps12
      go_wp2
      refine wp_loop_rounds 1 ?_
      rw [rounds_succ]
    · go_wp2_with fail
      refine (sVotesOk A m c vs n _ hm hx).mono ?_
      rintro _ w1 ⟨rfl, hb1⟩
      rw [h0]
      go_wp2
      go_ret
      exact Val.mk' (v_int HV.out.symm) (by (repeat (first | exact In.refl _ | assumption | apply In.alloc | apply In.drewN | apply In.drew | (refine In.step ?_ (by assumption)))))
    · go_wp2
      go_ret
      exact Val.mk' (v_int HV.out.symm) (by (repeat (first | exact In.refl _ | assumption | apply In.alloc | apply In.drewN | apply In.drew | (refine In.step ?_ (by assumption)))))
  obtain ⟨n1, n2, m1, m2, hv⟩ := votes_at h0
  obtain ⟨q, rfl⟩ : ∃ q : Nat, n = q := ⟨n.toNat, by omega⟩
  have HV : Hid (bestA m vs q = fstP (allW m vs q) q) := Lib.hid (by simp [bestA, h0])
  have H0 := Lib.hid h0
  clear hv h0
  go_enter Try.func12, Try.ntmps12
  go_wp2
  go_loopw [5] (fun i wr => ∃ a : Nat, a ≤ q ∧ i = .int .i64 a ∧ (∀ i, i < a → allW m vs q i = false) ∧ In w.heap.size w wr) (fun i _ => q - (intOf i).toNat)
  case atStart => exact ⟨0, Nat.zero_le _, rfl, fun i hi => absurd hi (Nat.not_lt_zero _), by (repeat (first | exact In.refl _ | assumption | apply In.alloc | apply In.drewN | apply In.drew | (refine In.step ?_ (by assumption))))⟩
  case round =>
    obtain ⟨a, ha, rfl, ho, hi⟩ := hrel
    have HO := Lib.hid ho
    clear ho
    by_cases hlt : a < q
    · obtain ⟨w8, rfl⟩ : ∃ w8, w8 = wr := ⟨_, rfl⟩
      have HAL : Hid (allW m vs q a = allOk (beW m vs q a) q) := Lib.hid rfl
      go_wp2_with fail
      refine (sVotesOk A m c vs q _ hm (hx.in_ hi)).mono ?_
      rintro _ w1 ⟨rfl, hb1⟩
      have i1 : In w.heap.size w w1 := In.step (by (repeat (first | exact In.refl _ | assumption | apply In.alloc | apply In.drewN | apply In.drew | (refine In.step ?_ (by assumption))))) hb1
      rw [H0.out]
      clear hb1
      go_wp2
      go_loopw [6, 7] (fun s j wr2 => ∃ b : Nat, b ≤ q ∧ j = .int .i64 b ∧ s = .bool (allOk (beW m vs q a) b) ∧ In w.heap.size w wr2) (fun _ j _ => q - (intOf j).toNat)
      case atStart => exact ⟨0, Nat.zero_le _, rfl, rfl, by (repeat (first | exact In.refl _ | assumption | apply In.alloc | apply In.drewN | apply In.drew | (refine In.step ?_ (by assumption))))⟩
      case round =>
        clear i1
        obtain ⟨b, hb, rfl, rfl, hi2⟩ := hrel
        by_cases hlt2 : b < q
        · have HU : Hid (allOk (beW m vs q a) (b + 1) = (allOk (beW m vs q a) b && beW m vs q a b)) := Lib.hid rfl
          have HBW : Hid (beW m vs q a b = (decide (a = b) || winB m vs q a b)) := Lib.hid rfl
          cases hal : allOk (beW m vs q a) b
          · rw [hal] at HU
            go_wp2
            go_roundw
            case rel => exact ⟨b + 1, by omega, by go_num, by rw [HU.out]; simp, by (repeat (first | exact In.refl _ | assumption | apply In.alloc | apply In.drewN | apply In.drew | (refine In.step ?_ (by assumption))))⟩
            case measure => simp [intOf]; omega
          · rw [hal] at HU
            by_cases hab : a = b
            · have HB1 : Hid (beW m vs q a b = true) := Lib.hid (by rw [HBW.out]; simp [hab])
              have hab1 : ((a : Int) == (b : Int)) = true := by simp; omega
              clear hab
              go_wp2
              go_roundw
              case rel => exact ⟨b + 1, by omega, by go_num, by rw [HU.out, HB1.out]; simp, by (repeat (first | exact In.refl _ | assumption | apply In.alloc | apply In.drewN | apply In.drew | (refine In.step ?_ (by assumption))))⟩
              case measure => simp [intOf]; omega
            · have HB1 : Hid (beW m vs q a b = winB m vs q a b) := Lib.hid (by rw [HBW.out]; simp [hab])
              have hab1 : ((a : Int) == (b : Int)) = false := by simp; omega
              clear hab
              go_wp2_with fail
              refine (swins A m c vs q a b _ (by omega) (hx.in_ (by (repeat (first | exact In.refl _ | assumption | apply In.alloc | apply In.drewN | apply In.drew | (refine In.step ?_ (by assumption))))))).mono ?_
              rintro _ w2 ⟨rfl, hb2⟩
              go_wp2
              go_roundw
              case rel => exact ⟨b + 1, by omega, by go_num, by rw [HU.out, HB1.out]; simp, by (repeat (first | exact In.refl _ | assumption | apply In.alloc | apply In.drewN | apply In.drew | (refine In.step ?_ (by assumption))))⟩
              case measure => simp [intOf]; omega
        · obtain rfl : b = q := by omega
          cases hc : allOk (beW m vs b a) b
          · have HN : Hid (allW m vs b a = false) := Lib.hid (by rw [HAL.out, hc])
            go_wp2
            go_roundw
            case rel => exact ⟨a + 1, by omega, by go_num, fun i hi => by
                by_cases e : i = a
                · subst e; exact HN.out
                · exact HO.out i (by omega), by (repeat (first | exact In.refl _ | assumption | apply In.alloc | apply In.drewN | apply In.drew | (refine In.step ?_ (by assumption))))⟩
            case measure => simp [intOf]; omega
          · have HN : Hid (fstP (allW m vs b) b = a) := Lib.hid (fstP_at hlt HO.out (by rw [HAL.out, hc]))
            go_wp2
            go_ret
            exact Val.mk' (v_int (by rw [HV.out, HN.out])) (by (repeat (first | exact In.refl _ | assumption | apply In.alloc | apply In.drewN | apply In.drew | (refine In.step ?_ (by assumption)))))
    · obtain rfl : a = q := by omega
      go_wp2
      go_ret
      exact Val.mk' (v_int (by rw [HV.out, fstP_no HO.out])) (by (repeat (first | exact In.refl _ | assumption | apply In.alloc | apply In.drewN | apply In.drew | (refine In.step ?_ (by assumption)))))
theorem iHasCircle (A : Option Addr) (m c : Nat) (vs : List IntSR) (n : Int) (w : World) (hm : m ≤ maxLen) (hx : ReadsIntS w A m vs) : Calls Try.prog 25 #[.slice A m c, .int .i64 n] w (Val (.bool (circB m vs n)) w) := by
  cases h0 : votesB m vs n
  · have HV : Hid (circB m vs n = false) := Lib.hid (by simp [circB, h0])
    go_enter Try.func25, Try.ntmps25
    go_wp2_with fail
    refine (iVotesOk A m c vs n _ hm hx).mono ?_
    rintro _ w1 ⟨rfl, hb1⟩
    rw [h0]
    go_wp2
    go_ret
    exact Val.mk' (v_bool HV.out.symm) (by (repeat (first | exact In.refl _ | assumption | apply In.alloc | apply In.drewN | apply In.drew | (refine In.step ?_ (by assumption)))))
  obtain ⟨n1, n2, m1, m2, hv⟩ := votes_at h0
  obtain ⟨q, rfl⟩ : ∃ q : Nat, n = q := ⟨n.toNat, by omega⟩
  have HVT : Hid (∀ a b c, a < q → b < q → c < q → crB m vs q a b c = true → circB m vs q = true) := Lib.hid fun a b c ha hb hc h => by
    have h3 : allOk (fun c => !crB m vs q a b c) q = false := allOk_f _ _ c hc (by simp [h])
    have h2 : allOk (fun b => allOk (fun c => !crB m vs q a b c) q) q = false := allOk_f _ _ b hb h3
    have h1 : allOk (fun a => allOk (fun b => allOk (fun c => !crB m vs q a b c) q) q) q = false := allOk_f _ _ a ha h2
    simp [circB, h0, h1]
  have HVF : Hid ((∀ a, a < q → allOk (fun b => allOk (fun c => !crB m vs q a b c) q) q = true) → circB m vs q = false) := Lib.hid fun h => by
    have h1 := allOk_t (fun a => allOk (fun b => allOk (fun c => !crB m vs q a b c) q) q) q h
    simp [circB, h1]
  have H0 := Lib.hid h0
  clear hv h0
  go_enter Try.func25, Try.ntmps25
  go_wp2_with fail
  refine (iVotesOk A m c vs q _ hm hx).mono ?_
  rintro _ w1 ⟨rfl, hb1⟩
  rw [H0.out]
  have i1 : In w.heap.size w w1 := In.step (by (repeat (first | exact In.refl _ | assumption | apply In.alloc | apply In.drewN | apply In.drew | (refine In.step ?_ (by assumption))))) hb1
  clear hb1
  go_wp2
  go_loopw [13] (fun i wr => ∃ a : Nat, a ≤ q ∧ i = .int .i64 a ∧ (∀ a', a' < a → allOk (fun b => allOk (fun c => !crB m vs q a' b c) q) q = true) ∧ In w.heap.size w wr) (fun i _ => q - (intOf i).toNat)
  case atStart => exact ⟨0, Nat.zero_le _, rfl, fun i hi => absurd hi (Nat.not_lt_zero _), by (repeat (first | exact In.refl _ | assumption | apply In.alloc | apply In.drewN | apply In.drew | (refine In.step ?_ (by assumption))))⟩
  case round =>
    clear i1
    obtain ⟨a, ha, rfl, ho, hi⟩ := hrel
    have HO := Lib.hid ho
    clear ho
    by_cases hlt : a < q
    · obtain ⟨w8, rfl⟩ : ∃ w8, w8 = wr := ⟨_, rfl⟩
      go_wp2
      go_loopw [17] (fun i wr2 => ∃ b : Nat, b ≤ q ∧ i = .int .i64 b ∧ (∀ b', b' < b → allOk (fun c => !crB m vs q a b' c) q = true) ∧ In w.heap.size w wr2) (fun i _ => q - (intOf i).toNat)
      case atStart => exact ⟨0, Nat.zero_le _, rfl, fun i hi => absurd hi (Nat.not_lt_zero _), by (repeat (first | exact In.refl _ | assumption | apply In.alloc | apply In.drewN | apply In.drew | (refine In.step ?_ (by assumption))))⟩
      case round =>
        skip
        obtain ⟨b, hb, rfl, ho2, hi2⟩ := hrel
        have HO2 := Lib.hid ho2
        clear ho2
        by_cases hlt2 : b < q
        · obtain ⟨w9, rfl⟩ : ∃ w9, w9 = wr := ⟨_, rfl⟩
          go_wp2
          go_loopw [21] (fun i wr3 => ∃ d : Nat, d ≤ q ∧ i = .int .i64 d ∧ (∀ c', c' < d → (!crB m vs q a b c') = true) ∧ In w.heap.size w wr3) (fun i _ => q - (intOf i).toNat)
          case atStart => exact ⟨0, Nat.zero_le _, rfl, fun i hi => absurd hi (Nat.not_lt_zero _), by (repeat (first | exact In.refl _ | assumption | apply In.alloc | apply In.drewN | apply In.drew | (refine In.step ?_ (by assumption))))⟩
          case round =>
            obtain ⟨d, hd, rfl, ho3, hi3⟩ := hrel
            have HO3 := Lib.hid ho3
            clear ho3
            by_cases hlt3 : d < q
            · have HCR : Hid (crB m vs q a b d = (winB m vs q a b && winB m vs q b d && winB m vs q d a)) := Lib.hid rfl
              have HT := Lib.hid (HVT.out a b d hlt hlt2 hlt3)
              have HS1 : Hid (∀ x y : Nat, x = y → winB m vs q x y = false) := Lib.hid fun x y e => by subst e; exact winB_self m vs q x
              go_wp2_with fail
              refine (iwins A m c vs q a b _ (by omega) (hx.in_ (by (repeat (first | exact In.refl _ | assumption | apply In.alloc | apply In.drewN | apply In.drew | (refine In.step ?_ (by assumption))))))).mono ?_
              rintro _ w2 ⟨rfl, hb2⟩
              have j2 : In w.heap.size w w2 := In.step (by (repeat (first | exact In.refl _ | assumption | apply In.alloc | apply In.drewN | apply In.drew | (refine In.step ?_ (by assumption))))) hb2
              clear hb2
              cases h1 : winB m vs q a b
              · have HN : Hid (crB m vs q a b d = false) := Lib.hid (by rw [HCR.out, h1]; simp)
                go_wp2
                go_roundw
                case rel => exact ⟨d + 1, by omega, by go_num, fun i hi => by
                    by_cases e : i = d
                    · subst e; simp [HN.out]
                    · exact HO3.out i (by omega), by (repeat (first | exact In.refl _ | assumption | apply In.alloc | apply In.drewN | apply In.drew | (refine In.step ?_ (by assumption))))⟩
                case measure => simp [intOf]; omega
              go_wp2_with fail
              refine (iwins A m c vs q b d _ (by omega) (hx.in_ (by (repeat (first | exact In.refl _ | assumption | apply In.alloc | apply In.drewN | apply In.drew | (refine In.step ?_ (by assumption))))))).mono ?_
              rintro _ w3 ⟨rfl, hb3⟩
              have j3 : In w.heap.size w w3 := In.step (by (repeat (first | exact In.refl _ | assumption | apply In.alloc | apply In.drewN | apply In.drew | (refine In.step ?_ (by assumption))))) hb3
              clear hb3
              cases h2 : winB m vs q b d
              · have HN : Hid (crB m vs q a b d = false) := Lib.hid (by rw [HCR.out, h2]; simp)
                go_wp2
                go_roundw
                case rel => exact ⟨d + 1, by omega, by go_num, fun i hi => by
                    by_cases e : i = d
                    · subst e; simp [HN.out]
                    · exact HO3.out i (by omega), by (repeat (first | exact In.refl _ | assumption | apply In.alloc | apply In.drewN | apply In.drew | (refine In.step ?_ (by assumption))))⟩
                case measure => simp [intOf]; omega
              go_wp2_with fail
              refine (iwins A m c vs q d a _ (by omega) (hx.in_ (by (repeat (first | exact In.refl _ | assumption | apply In.alloc | apply In.drewN | apply In.drew | (refine In.step ?_ (by assumption))))))).mono ?_
              rintro _ w4 ⟨rfl, hb4⟩
              have j4 : In w.heap.size w w4 := In.step (by (repeat (first | exact In.refl _ | assumption | apply In.alloc | apply In.drewN | apply In.drew | (refine In.step ?_ (by assumption))))) hb4
              clear hb4
              cases h3 : winB m vs q d a
              · have HN : Hid (crB m vs q a b d = false) := Lib.hid (by rw [HCR.out, h3]; simp)
                go_wp2
                go_roundw
                case rel => exact ⟨d + 1, by omega, by go_num, fun i hi => by
                    by_cases e : i = d
                    · subst e; simp [HN.out]
                    · exact HO3.out i (by omega), by (repeat (first | exact In.refl _ | assumption | apply In.alloc | apply In.drewN | apply In.drew | (refine In.step ?_ (by assumption))))⟩
                case measure => simp [intOf]; omega
              have HTT := Lib.hid (HT.out (by rw [HCR.out, h1, h2, h3]; rfl))
              go_wp2
              go_ret
              exact Val.mk' (v_bool HTT.out.symm) (by (repeat (first | exact In.refl _ | assumption | apply In.alloc | apply In.drewN | apply In.drew | (refine In.step ?_ (by assumption)))))
            · obtain rfl : d = q := by omega
              have HN := Lib.hid (allOk_t _ _ HO3.out)
              go_wp2
              go_roundw
              case rel => exact ⟨b + 1, by omega, by go_num, fun i hi => by
                  by_cases e : i = b
                  · subst e; exact HN.out
                  · exact HO2.out i (by omega), by (repeat (first | exact In.refl _ | assumption | apply In.alloc | apply In.drewN | apply In.drew | (refine In.step ?_ (by assumption))))⟩
              case measure => simp [intOf]; omega
        · obtain rfl : b = q := by omega
          have HN := Lib.hid (allOk_t _ _ HO2.out)
          go_wp2
          go_roundw
          case rel => exact ⟨a + 1, by omega, by go_num, fun i hi => by
              by_cases e : i = a
              · subst e; exact HN.out
              · exact HO.out i (by omega), by (repeat (first | exact In.refl _ | assumption | apply In.alloc | apply In.drewN | apply In.drew | (refine In.step ?_ (by assumption))))⟩
          case measure => simp [intOf]; omega
    · obtain rfl : a = q := by omega
      have HF := Lib.hid (HVF.out HO.out)
      go_wp2
      go_ret
      exact Val.mk' (v_bool HF.out.symm) (by (repeat (first | exact In.refl _ | assumption | apply In.alloc | apply In.drewN | apply In.drew | (refine In.step ?_ (by assumption)))))
theorem sHasCircle (A : Option Addr) (m c : Nat) (vs : List IntSR) (n : Int) (w : World) (hm : m ≤ maxLen) (hx : ReadsIntS w A m vs) : Calls Try.prog 24 #[.slice A m c, .int .i64 n] w (Val (.bool (circB m vs n)) w) := by
  cases h0 : votesB m vs n
  · have HV : Hid (circB m vs n = false) := Lib.hid (by simp [circB, h0])
    by_cases hn : 0 < n
    all_goals
      go_enter Try.func24, Try.ntmps24
      go_wp2
      refine wp_loop_rounds 1 ?_
      rw [rounds_succ]
    · skip
      go_wp2_with fail
      refine (sVotesOk A m c vs n _ hm hx).mono ?_
      rintro _ w1 ⟨rfl, hb1⟩
      rw [h0]
      go_wp2
      go_ret
      exact Val.mk' (v_bool HV.out.symm) (by (repeat (first | exact In.refl _ | assumption | apply In.alloc | apply In.drewN | apply In.drew | (refine In.step ?_ (by assumption)))))
    · go_wp2
      go_ret
      exact Val.mk' (v_bool HV.out.symm) (by (repeat (first | exact In.refl _ | assumption | apply In.alloc | apply In.drewN | apply In.drew | (refine In.step ?_ (by assumption)))))
  obtain ⟨n1, n2, m1, m2, hv⟩ := votes_at h0
  obtain ⟨q, rfl⟩ : ∃ q : Nat, n = q := ⟨n.toNat, by omega⟩
  have HVT : Hid (∀ a b c, a < q → b < q → c < q → crB m vs q a b c = true → circB m vs q = true) := Lib.hid fun a b c ha hb hc h => by
    have h3 : allOk (fun c => !crB m vs q a b c) q = false := allOk_f _ _ c hc (by simp [h])
    have h2 : allOk (fun b => allOk (fun c => !crB m vs q a b c) q) q = false := allOk_f _ _ b hb h3
    have h1 : allOk (fun a => allOk (fun b => allOk (fun c => !crB m vs q a b c) q) q) q = false := allOk_f _ _ a ha h2
    simp [circB, h0, h1]
  have HVF : Hid ((∀ a, a < q → allOk (fun b => allOk (fun c => !crB m vs q a b c) q) q = true) → circB m vs q = false) := Lib.hid fun h => by
    have h1 := allOk_t (fun a => allOk (fun b => allOk (fun c => !crB m vs q a b c) q) q) q h
    simp [circB, h1]
  have H0 := Lib.hid h0
  clear hv h0
  go_enter Try.func24, Try.ntmps24
  go_wp2
  go_loopw [5] (fun i wr => ∃ a : Nat, a ≤ q ∧ i = .int .i64 a ∧ (∀ a', a' < a → allOk (fun b => allOk (fun c => !crB m vs q a' b c) q) q = true) ∧ In w.heap.size w wr) (fun i _ => q - (intOf i).toNat)
  case atStart => exact ⟨0, Nat.zero_le _, rfl, fun i hi => absurd hi (Nat.not_lt_zero _), by (repeat (first | exact In.refl _ | assumption | apply In.alloc | apply In.drewN | apply In.drew | (refine In.step ?_ (by assumption))))⟩
  case round =>
    skip
    obtain ⟨a, ha, rfl, ho, hi⟩ := hrel
    have HO := Lib.hid ho
    clear ho
    by_cases hlt : a < q
    · obtain ⟨w8, rfl⟩ : ∃ w8, w8 = wr := ⟨_, rfl⟩
      go_wp2_with fail
      refine (sVotesOk A m c vs q _ hm (hx.in_ hi)).mono ?_
      rintro _ w1 ⟨rfl, hb1⟩
      have i1 : In w.heap.size w w1 := In.step (by (repeat (first | exact In.refl _ | assumption | apply In.alloc | apply In.drewN | apply In.drew | (refine In.step ?_ (by assumption))))) hb1
      rw [H0.out]
      clear hb1
      go_wp2
      go_loopw [6] (fun i wr2 => ∃ b : Nat, b ≤ q ∧ i = .int .i64 b ∧ (∀ b', b' < b → allOk (fun c => !crB m vs q a b' c) q = true) ∧ In w.heap.size w wr2) (fun i _ => q - (intOf i).toNat)
      case atStart => exact ⟨0, Nat.zero_le _, rfl, fun i hi => absurd hi (Nat.not_lt_zero _), by (repeat (first | exact In.refl _ | assumption | apply In.alloc | apply In.drewN | apply In.drew | (refine In.step ?_ (by assumption))))⟩
      case round =>
        clear i1
        obtain ⟨b, hb, rfl, ho2, hi2⟩ := hrel
        have HO2 := Lib.hid ho2
        clear ho2
        by_cases hlt2 : b < q
        · obtain ⟨w9, rfl⟩ : ∃ w9, w9 = wr := ⟨_, rfl⟩
          go_wp2
          go_loopw [7] (fun i wr3 => ∃ d : Nat, d ≤ q ∧ i = .int .i64 d ∧ (∀ c', c' < d → (!crB m vs q a b c') = true) ∧ In w.heap.size w wr3) (fun i _ => q - (intOf i).toNat)
          case atStart => exact ⟨0, Nat.zero_le _, rfl, fun i hi => absurd hi (Nat.not_lt_zero _), by (repeat (first | exact In.refl _ | assumption | apply In.alloc | apply In.drewN | apply In.drew | (refine In.step ?_ (by assumption))))⟩
          case round =>
            obtain ⟨d, hd, rfl, ho3, hi3⟩ := hrel
            have HO3 := Lib.hid ho3
            clear ho3
            by_cases hlt3 : d < q
            · have HCR : Hid (crB m vs q a b d = (winB m vs q a b && winB m vs q b d && winB m vs q d a)) := Lib.hid rfl
              have HT := Lib.hid (HVT.out a b d hlt hlt2 hlt3)
              have HS1 : Hid (∀ x y : Nat, x = y → winB m vs q x y = false) := Lib.hid fun x y e => by subst e; exact winB_self m vs q x
              by_cases e1 : a = b
              · have HN : Hid (crB m vs q a b d = false) := Lib.hid (by rw [HCR.out, HS1.out a b (by omega)]; simp)
                have hq : ((a : Int) == (b : Int)) = true := by simp; omega
                have hq2 : ((a : Int) != (b : Int)) = false := by simp; omega
                clear e1
                go_wp2
                go_roundw
                case rel => exact ⟨d + 1, by omega, by go_num, fun i hi => by
                    by_cases e : i = d
                    · subst e; simp [HN.out]
                    · exact HO3.out i (by omega), by (repeat (first | exact In.refl _ | assumption | apply In.alloc | apply In.drewN | apply In.drew | (refine In.step ?_ (by assumption))))⟩
                case measure => simp [intOf]; omega
              have hn_e1 : ((a : Int) == (b : Int)) = false := by simp; omega
              have hm_e1 : ((a : Int) != (b : Int)) = true := by simp; omega
              clear e1
              by_cases e2 : b = d
              · have HN : Hid (crB m vs q a b d = false) := Lib.hid (by rw [HCR.out, HS1.out b d (by omega)]; simp)
                have hq : ((b : Int) == (d : Int)) = true := by simp; omega
                have hq2 : ((b : Int) != (d : Int)) = false := by simp; omega
                clear e2
                go_wp2
                go_roundw
                case rel => exact ⟨d + 1, by omega, by go_num, fun i hi => by
                    by_cases e : i = d
                    · subst e; simp [HN.out]
                    · exact HO3.out i (by omega), by (repeat (first | exact In.refl _ | assumption | apply In.alloc | apply In.drewN | apply In.drew | (refine In.step ?_ (by assumption))))⟩
                case measure => simp [intOf]; omega
              have hn_e2 : ((b : Int) == (d : Int)) = false := by simp; omega
              have hm_e2 : ((b : Int) != (d : Int)) = true := by simp; omega
              clear e2
              by_cases e3 : a = d
              · have HN : Hid (crB m vs q a b d = false) := Lib.hid (by rw [HCR.out, HS1.out d a (by omega)]; simp)
                have hq : ((a : Int) == (d : Int)) = true := by simp; omega
                have hq2 : ((a : Int) != (d : Int)) = false := by simp; omega
                clear e3
                go_wp2
                go_roundw
                case rel => exact ⟨d + 1, by omega, by go_num, fun i hi => by
                    by_cases e : i = d
                    · subst e; simp [HN.out]
                    · exact HO3.out i (by omega), by (repeat (first | exact In.refl _ | assumption | apply In.alloc | apply In.drewN | apply In.drew | (refine In.step ?_ (by assumption))))⟩
                case measure => simp [intOf]; omega
              have hn_e3 : ((a : Int) == (d : Int)) = false := by simp; omega
              have hm_e3 : ((a : Int) != (d : Int)) = true := by simp; omega
              clear e3
              go_wp2_with fail
              refine (swins A m c vs q a b _ (by omega) (hx.in_ (by (repeat (first | exact In.refl _ | assumption | apply In.alloc | apply In.drewN | apply In.drew | (refine In.step ?_ (by assumption))))))).mono ?_
              rintro _ w2 ⟨rfl, hb2⟩
              have j2 : In w.heap.size w w2 := In.step (by (repeat (first | exact In.refl _ | assumption | apply In.alloc | apply In.drewN | apply In.drew | (refine In.step ?_ (by assumption))))) hb2
              clear hb2
              cases h1 : winB m vs q a b
              · have HN : Hid (crB m vs q a b d = false) := Lib.hid (by rw [HCR.out, h1]; simp)
                go_wp2
                go_roundw
                case rel => exact ⟨d + 1, by omega, by go_num, fun i hi => by
                    by_cases e : i = d
                    · subst e; simp [HN.out]
                    · exact HO3.out i (by omega), by (repeat (first | exact In.refl _ | assumption | apply In.alloc | apply In.drewN | apply In.drew | (refine In.step ?_ (by assumption))))⟩
                case measure => simp [intOf]; omega
              go_wp2_with fail
              refine (swins A m c vs q b d _ (by omega) (hx.in_ (by (repeat (first | exact In.refl _ | assumption | apply In.alloc | apply In.drewN | apply In.drew | (refine In.step ?_ (by assumption))))))).mono ?_
              rintro _ w3 ⟨rfl, hb3⟩
              have j3 : In w.heap.size w w3 := In.step (by (repeat (first | exact In.refl _ | assumption | apply In.alloc | apply In.drewN | apply In.drew | (refine In.step ?_ (by assumption))))) hb3
              clear hb3
              cases h2 : winB m vs q b d
              · have HN : Hid (crB m vs q a b d = false) := Lib.hid (by rw [HCR.out, h2]; simp)
                go_wp2
                go_roundw
                case rel => exact ⟨d + 1, by omega, by go_num, fun i hi => by
                    by_cases e : i = d
                    · subst e; simp [HN.out]
                    · exact HO3.out i (by omega), by (repeat (first | exact In.refl _ | assumption | apply In.alloc | apply In.drewN | apply In.drew | (refine In.step ?_ (by assumption))))⟩
                case measure => simp [intOf]; omega
              go_wp2_with fail
              refine (swins A m c vs q d a _ (by omega) (hx.in_ (by (repeat (first | exact In.refl _ | assumption | apply In.alloc | apply In.drewN | apply In.drew | (refine In.step ?_ (by assumption))))))).mono ?_
              rintro _ w4 ⟨rfl, hb4⟩
              have j4 : In w.heap.size w w4 := In.step (by (repeat (first | exact In.refl _ | assumption | apply In.alloc | apply In.drewN | apply In.drew | (refine In.step ?_ (by assumption))))) hb4
              clear hb4
              cases h3 : winB m vs q d a
              · have HN : Hid (crB m vs q a b d = false) := Lib.hid (by rw [HCR.out, h3]; simp)
                go_wp2
                go_roundw
                case rel => exact ⟨d + 1, by omega, by go_num, fun i hi => by
                    by_cases e : i = d
                    · subst e; simp [HN.out]
                    · exact HO3.out i (by omega), by (repeat (first | exact In.refl _ | assumption | apply In.alloc | apply In.drewN | apply In.drew | (refine In.step ?_ (by assumption))))⟩
                case measure => simp [intOf]; omega
              have HTT := Lib.hid (HT.out (by rw [HCR.out, h1, h2, h3]; rfl))
              go_wp2
              go_ret
              exact Val.mk' (v_bool HTT.out.symm) (by (repeat (first | exact In.refl _ | assumption | apply In.alloc | apply In.drewN | apply In.drew | (refine In.step ?_ (by assumption)))))
            · obtain rfl : d = q := by omega
              have HN := Lib.hid (allOk_t _ _ HO3.out)
              go_wp2
              go_roundw
              case rel => exact ⟨b + 1, by omega, by go_num, fun i hi => by
                  by_cases e : i = b
                  · subst e; exact HN.out
                  · exact HO2.out i (by omega), by (repeat (first | exact In.refl _ | assumption | apply In.alloc | apply In.drewN | apply In.drew | (refine In.step ?_ (by assumption))))⟩
              case measure => simp [intOf]; omega
        · obtain rfl : b = q := by omega
          have HN := Lib.hid (allOk_t _ _ HO2.out)
          go_wp2
          go_roundw
          case rel => exact ⟨a + 1, by omega, by go_num, fun i hi => by
              by_cases e : i = a
              · subst e; exact HN.out
              · exact HO.out i (by omega), by (repeat (first | exact In.refl _ | assumption | apply In.alloc | apply In.drewN | apply In.drew | (refine In.step ?_ (by assumption))))⟩
          case measure => simp [intOf]; omega
    · obtain rfl : a = q := by omega
      have HF := Lib.hid (HVF.out HO.out)
      go_wp2
      go_ret
      exact Val.mk' (v_bool HF.out.symm) (by (repeat (first | exact In.refl _ | assumption | apply In.alloc | apply In.drewN | apply In.drew | (refine In.step ?_ (by assumption)))))
end Go.Proofs.Ytbbinndegcnedac
