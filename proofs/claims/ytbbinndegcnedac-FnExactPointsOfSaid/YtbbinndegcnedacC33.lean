/- Chapter 33: VotesOk. -/
import Derived.Test.YtbbinndegcnedacPerm
import Derived.Test.YtbbinndegcnedacSS
import Derived.Test.YtbbinndegcnedacIn
import Derived.IntWalk
namespace Go.Proofs.Ytbbinndegcnedac
open Go.ChangeShapes Go.WideShapes Go.ChangeAt Go.RowKit
set_option linter.unusedVariables false
set_option linter.unusedSimpArgs false
set_option maxHeartbeats 2000000

def vOk (n : Nat) (vs : List IntSR) (i : Nat) : Bool := decide ((vs.getD i []).length = n) && allOk (ordOk n (vs.getD i [])) (vs.getD i []).length
def votesB (m : Nat) (vs : List IntSR) (n : Int) : Bool := inB n 1 6 && inB (m : Int) 1 15 && allOk (vOk n.toNat vs) m
theorem votes_at {m : Nat} {vs : List IntSR} {n : Int} (h : votesB m vs n = true) : 1 ≤ n ∧ n ≤ 6 ∧ 1 ≤ m ∧ m ≤ 15 ∧ ∀ i, i < m → vOk n.toNat vs i = true := by
  simp only [votesB, Bool.and_eq_true] at h
  have h1 := inB_tt h.1.1
  have h2 := inB_tt h.1.2
  exact ⟨h1.1, h1.2, by omega, by omega, allOk_at _ _ h.2⟩
theorem vote_at {n : Nat} {vs : List IntSR} {i : Nat} (h : vOk n vs i = true) : (vs.getD i []).length = n ∧ (∀ k, k < n → 0 ≤ (vs.getD i []).getD k 0 ∧ (vs.getD i []).getD k 0 < n) ∧ ∀ k j, k < n → j < n → (vs.getD i []).getD k 0 = (vs.getD i []).getD j 0 → k = j := by
  simp only [vOk, Bool.and_eq_true, decide_eq_true_eq] at h
  obtain ⟨h1, h2⟩ := h
  rw [h1] at h2
  exact ⟨h1, ord_inj h2⟩
theorem iVotesOk (A : Option Addr) (m c : Nat) (vs : List IntSR) (n : Int) (w : World) (hm : m ≤ maxLen) (hx : ReadsIntS w A m vs) : Calls Try.prog 48 #[.slice A m c, .int .i64 n] w (Val (.bool (votesB m vs n)) w) := by
  unfold maxLen at hm
  cases h1 : inB n 1 6
  · have HV : Hid (votesB m vs n = false) := Lib.hid (by simp [votesB, h1])
    go_enter Try.func48, Try.ntmps48
    go_wp2_with (first | (go_at_call 61; refine (sIn _ _ _ _).mono ?_; rintro e w' ⟨rfl, rfl⟩) | (go_at_call 57; refine (iIn _ _ _ _).mono ?_; rintro e w' ⟨rfl, rfl⟩))
    go_ret
    exact Val.mk' (v_bool HV.out.symm) (by (repeat (first | exact In.refl _ | assumption | apply In.alloc | apply In.drewN | apply In.drew | (refine In.step ?_ (by assumption)))))
  cases h2 : inB (m : Int) 1 15
  · have HV : Hid (votesB m vs n = false) := Lib.hid (by simp [votesB, h2])
    go_enter Try.func48, Try.ntmps48
    go_wp2_with (first | (go_at_call 61; refine (sIn _ _ _ _).mono ?_; rintro e w' ⟨rfl, rfl⟩) | (go_at_call 57; refine (iIn _ _ _ _).mono ?_; rintro e w' ⟨rfl, rfl⟩))
    go_ret
    exact Val.mk' (v_bool HV.out.symm) (by (repeat (first | exact In.refl _ | assumption | apply In.alloc | apply In.drewN | apply In.drew | (refine In.step ?_ (by assumption)))))
  obtain ⟨n1, n2⟩ := inB_tt h1
  obtain ⟨q, rfl⟩ : ∃ q : Nat, n = q := ⟨n.toNat, by omega⟩
  have HVT : Hid (allOk (vOk q vs) m = true → votesB m vs q = true) := Lib.hid fun h => by simp [votesB, h1, h2, h]
  have HVF : Hid (∀ k, k < m → vOk q vs k = false → votesB m vs q = false) := Lib.hid fun k hk h => by simp [votesB, allOk_f _ _ k hk h]
  go_enter Try.func48, Try.ntmps48
  go_wp2_with (first | (go_at_call 61; refine (sIn _ _ _ _).mono ?_; rintro e w' ⟨rfl, rfl⟩) | (go_at_call 57; refine (iIn _ _ _ _).mono ?_; rintro e w' ⟨rfl, rfl⟩))
  clear h1 h2
  go_loopw [18] (fun i wr => ∃ k : Nat, k ≤ m ∧ i = .int .i64 k ∧ (∀ i, i < k → vOk q vs i = true) ∧ In w.heap.size w wr) (fun i _ => m - (intOf i).toNat)
  case atStart => exact ⟨0, Nat.zero_le _, rfl, fun i hi => absurd hi (Nat.not_lt_zero _), by (repeat (first | exact In.refl _ | assumption | apply In.alloc | apply In.drewN | apply In.drew | (refine In.step ?_ (by assumption))))⟩
  case round =>
    obtain ⟨k, hk, rfl, ho, hi⟩ := hrel
    have HO := Lib.hid ho
    clear ho
    by_cases hlt : k < m
    · obtain ⟨a, rfl, B, d, ha, hl, hmx, hr⟩ := (hx.in_ hi).2 k hlt
      have HK : Hid (vOk q vs k = (decide ((vs.getD k []).length = q) && allOk (ordOk q (vs.getD k [])) (vs.getD k []).length)) := Lib.hid rfl
      generalize vs.getD k [] = x at *
      have hxm : x.length ≤ maxLen := Nat.le_trans hl hmx
      clear hl hmx
      cases h1 : (decide (x.length = q) && allOk (ordOk q x) x.length)
      · have HF := Lib.hid (HVF.out k hlt (by rw [HK.out]; exact h1))
        go_wp2_with fail
        refine (iisOrder B x.length d q x _ hxm (by omega) hr).mono ?_
        rintro _ w1 ⟨rfl, hb1⟩
        rw [h1]
        go_wp2
        go_ret
        exact Val.mk' (v_bool HF.out.symm) (by (repeat (first | exact In.refl _ | assumption | apply In.alloc | apply In.drewN | apply In.drew | (refine In.step ?_ (by assumption)))))
      · have HT : Hid (vOk q vs k = true) := Lib.hid (by rw [HK.out]; exact h1)
        go_wp2_with fail
        refine (iisOrder B x.length d q x _ hxm (by omega) hr).mono ?_
        rintro _ w1 ⟨rfl, hb1⟩
        rw [h1]
        go_wp2
        go_roundw
        case rel => exact ⟨k + 1, by omega, by go_num, fun i hi => by
            by_cases e : i = k
            · subst e; exact HT.out
            · exact HO.out i (by omega), by (repeat (first | exact In.refl _ | assumption | apply In.alloc | apply In.drewN | apply In.drew | (refine In.step ?_ (by assumption))))⟩
        case measure => simp [intOf]; omega
    · obtain rfl : k = m := by omega
      have HT := Lib.hid (HVT.out (allOk_t _ _ HO.out))
      go_wp2
      go_ret
      exact Val.mk' (v_bool HT.out.symm) (by (repeat (first | exact In.refl _ | assumption | apply In.alloc | apply In.drewN | apply In.drew | (refine In.step ?_ (by assumption)))))
theorem pow_in (x : Nat) (h : x ≤ 6) : 1 ≤ (2 : Int) ^ x ∧ (2 : Int) ^ x ≤ 64 ∧ (2 : Int) ^ x = ((2 ^ x : Nat) : Int) := by
  have : x = 0 ∨ x = 1 ∨ x = 2 ∨ x = 3 ∨ x = 4 ∨ x = 5 ∨ x = 6 := by omega
  rcases this with rfl | rfl | rfl | rfl | rfl | rfl | rfl <;> simp
theorem sVotesOk (A : Option Addr) (m c : Nat) (vs : List IntSR) (n : Int) (w : World) (hm : m ≤ maxLen) (hx : ReadsIntS w A m vs) : Calls Try.prog 45 #[.slice A m c, .int .i64 n] w (Val (.bool (votesB m vs n)) w) := by
  unfold maxLen at hm
  cases h1 : inB n 1 6
  · have HV : Hid (votesB m vs n = false) := Lib.hid (by simp [votesB, h1])
    go_enter Try.func45, Try.ntmps45
    go_wp2_with (first | (go_at_call 61; refine (sIn _ _ _ _).mono ?_; rintro e w' ⟨rfl, rfl⟩) | (go_at_call 57; refine (iIn _ _ _ _).mono ?_; rintro e w' ⟨rfl, rfl⟩))
    go_ret
    exact Val.mk' (v_bool HV.out.symm) (by (repeat (first | exact In.refl _ | assumption | apply In.alloc | apply In.drewN | apply In.drew | (refine In.step ?_ (by assumption)))))
  cases h2 : inB (m : Int) 1 15
  · have HV : Hid (votesB m vs n = false) := Lib.hid (by simp [votesB, h2])
    go_enter Try.func45, Try.ntmps45
    go_wp2_with (first | (go_at_call 61; refine (sIn _ _ _ _).mono ?_; rintro e w' ⟨rfl, rfl⟩) | (go_at_call 57; refine (iIn _ _ _ _).mono ?_; rintro e w' ⟨rfl, rfl⟩))
    go_ret
    exact Val.mk' (v_bool HV.out.symm) (by (repeat (first | exact In.refl _ | assumption | apply In.alloc | apply In.drewN | apply In.drew | (refine In.step ?_ (by assumption)))))
  obtain ⟨n1, n2⟩ := inB_tt h1
  obtain ⟨q, rfl⟩ : ∃ q : Nat, n = q := ⟨n.toNat, by omega⟩
  have HVT : Hid (allOk (vOk q vs) m = true → votesB m vs q = true) := Lib.hid fun h => by simp [votesB, h1, h2, h]
  have HVF : Hid (∀ k, k < m → vOk q vs k = false → votesB m vs q = false) := Lib.hid fun k hk h => by simp [votesB, allOk_f _ _ k hk h]
  go_enter Try.func45, Try.ntmps45
  go_wp2_with (first | (go_at_call 61; refine (sIn _ _ _ _).mono ?_; rintro e w' ⟨rfl, rfl⟩) | (go_at_call 57; refine (iIn _ _ _ _).mono ?_; rintro e w' ⟨rfl, rfl⟩))
  clear h1 h2
  go_loopw [5] (fun i wr => ∃ k : Nat, k ≤ m ∧ i = .int .i64 k ∧ (∀ i, i < k → vOk q vs i = true) ∧ In w.heap.size w wr) (fun i _ => m - (intOf i).toNat)
  case atStart => exact ⟨0, Nat.zero_le _, rfl, fun i hi => absurd hi (Nat.not_lt_zero _), by (repeat (first | exact In.refl _ | assumption | apply In.alloc | apply In.drewN | apply In.drew | (refine In.step ?_ (by assumption))))⟩
  case round =>
    obtain ⟨k, hk, rfl, ho, hi⟩ := hrel
    have HO := Lib.hid ho
    clear ho
    by_cases hlt : k < m
    · obtain ⟨a, rfl, B, d, ha, hl, hmx, hr⟩ := (hx.in_ hi).2 k hlt
      have HVF1 := Lib.hid (HVF.out k hlt)
      have HK : Hid (vOk q vs k = (decide ((vs.getD k []).length = q) && allOk (ordOk q (vs.getD k [])) (vs.getD k []).length)) := Lib.hid rfl
      generalize vs.getD k [] = x at *
      have HR := Lib.hid hr
      obtain ⟨L, hL⟩ : ∃ L, x.length = L := ⟨_, rfl⟩
      have hxm : L ≤ maxLen := hL ▸ Nat.le_trans hl hmx
      have HLL := Lib.hid hL
      rw [hL] at ha HK HR
      have HIN : Hid (inB ((q : Int)) 1 6 = true) := Lib.hid (by simp [inB]; omega)
      clear hl hmx hr hL
      unfold maxLen at hxm
      obtain ⟨w8, rfl⟩ : ∃ w8, w8 = wr := ⟨_, rfl⟩
      go_wp2
      go_loopw [6, 7] (fun s j wr2 => ∃ t : Nat, t ≤ L ∧ j = .int .i64 t ∧ s = .int .i64 ((setTo x t : Nat) : Int) ∧ (∀ i, i < t → 0 ≤ x.getD i 0 ∧ x.getD i 0 < q) ∧ In w8.heap.size w8 wr2) (fun _ j _ => L - (intOf j).toNat)
      case atStart => exact ⟨0, Nat.zero_le _, rfl, rfl, fun i hi => absurd hi (Nat.not_lt_zero _), In.refl _⟩
      case round =>
        obtain ⟨t, ht, rfl, rfl, hq, hi2⟩ := hrel
        have HQ := Lib.hid hq
        have ha2 := cell_in ha hi2
        have i3 : In w.heap.size w wr := hi.trans hi2
        clear hq
        by_cases hlt2 : t < L
        · obtain ⟨b, rfl, hb⟩ := (HR.out.below hi2.below (Nat.le_refl _)).2 t hlt2
          have HS : Hid (setTo x (t + 1) = orN (setTo x t) (x.getD t 0).toNat) := Lib.hid rfl
          have HSI := Lib.hid (setTo_in (xs := x) (k := t) (fun i hi => by have := HQ.out i hi; omega)).1
          have HQ2 : Hid (0 ≤ x.getD t 0 ∧ x.getD t 0 < q → ∀ i, i < t + 1 → 0 ≤ x.getD i 0 ∧ x.getD i 0 < q) := Lib.hid fun h i hi => by
            by_cases e : i = t
            · subst e; exact h
            · exact HQ.out i (by omega)
          have HBAD : Hid (¬ (0 ≤ x.getD t 0 ∧ x.getD t 0 < q) → vOk q vs k = false) := Lib.hid fun h => by
            cases hv : vOk q vs k
            · rfl
            · exfalso
              rw [HK.out, Bool.and_eq_true, decide_eq_true_eq] at hv
              obtain ⟨e, hv⟩ := hv
              rw [e] at hv
              exact h ((ord_inj hv).1 t (by omega))
          generalize x.getD t 0 = v at *
          generalize setTo x t = S at *
          cases h1 : inB v 0 ((q : Int) - 1)
          · have hout := inB_ff h1
            have HF := Lib.hid (HVF1.out (HBAD.out (by omega)))
            go_wp2_with (first | (go_at_call 61; refine (sIn _ _ _ _).mono ?_; rintro e w' ⟨rfl, rfl⟩) | (go_at_call 57; refine (iIn _ _ _ _).mono ?_; rintro e w' ⟨rfl, rfl⟩))
            go_ret
            exact Val.mk' (v_bool HF.out.symm) (by (repeat (first | exact In.refl _ | assumption | apply In.alloc | apply In.drewN | apply In.drew | (refine In.step ?_ (by assumption)))))
          · obtain ⟨v1, v2⟩ := inB_tt h1
            obtain ⟨y, rfl⟩ : ∃ y : Nat, v = y := ⟨v.toNat, by omega⟩
            have hy6 : y < 6 := by omega
            have hor := (orN_bits ⟨S, HSI.out⟩ ⟨y, hy6⟩).2.1
            have HQ3 := Lib.hid (HQ2.out (by omega))
            obtain ⟨p1, p2, p3⟩ := pow_in y (by omega)
            simp only at hor
            rw [← p3] at hor
            have HS2 : Hid (((setTo x (t + 1) : Nat) : Int) = ((orN S y : Nat) : Int)) := Lib.hid (by rw [HS.out]; simp)
            generalize ((orN S y : Nat) : Int) = S' at *
            generalize hP : (2 : Int) ^ y = P at *
            have hP2 : wrap64 P = P := w64 (by omega)
            clear p3 HBAD
            go_wp2_with (first | (go_at_call 61; refine (sIn _ _ _ _).mono ?_; rintro e w' ⟨rfl, rfl⟩) | (go_at_call 57; refine (iIn _ _ _ _).mono ?_; rintro e w' ⟨rfl, rfl⟩))
            go_roundw
            case rel => exact ⟨t + 1, by omega, by go_num, by rw [HS2.out], HQ3.out, by (repeat (first | exact In.refl _ | assumption | apply In.alloc | apply In.drewN | apply In.drew | (refine In.step ?_ (by assumption))))⟩
            case measure => simp [intOf]; omega
        · obtain rfl : t = L := by omega
          by_cases hLq : t = q
          · subst hLq
            have HSI := Lib.hid (setTo_in (xs := x) (k := t) (fun i hi => by have := HQ.out i hi; omega)).1
            have hsf := set_full (n := t) (xs := x) (by omega) HQ.out
            have HSF : Hid ((setTo x t = 2 ^ t - 1) ↔ vOk t vs k = true) := Lib.hid (by rw [hsf, HK.out]; simp)
            obtain ⟨p1, p2, p3⟩ := pow_in t (by omega)
            have hS64 := HSI.out
            clear hsf
            by_cases hc : setTo x t = 2 ^ t - 1
            · have HT := Lib.hid (HSF.out.1 hc)
              have hc2 : ((setTo x t : Nat) : Int) = (2 : Int) ^ t - 1 := by rw [hc, p3]; omega
              generalize hP : (2 : Int) ^ t = P at *
              have hP2 : wrap64 P = P := w64 (by omega)
              have hP3 : wrap64 (P - 1) = P - 1 := w64 (by omega)
              have hc3 : (((setTo x t : Nat) : Int) != P - 1) = false := by simp [hc2]
              generalize ((setTo x t : Nat) : Int) = S' at *
              clear hc hc2 p3 HSF
              go_wp2_with (first | (go_at_call 61; refine (sIn _ _ _ _).mono ?_; rintro e w' ⟨rfl, rfl⟩) | (go_at_call 57; refine (iIn _ _ _ _).mono ?_; rintro e w' ⟨rfl, rfl⟩))
              go_roundw
              case rel => exact ⟨k + 1, by omega, by go_num, fun i hi => by
                  by_cases e : i = k
                  · subst e; exact HT.out
                  · exact HO.out i (by omega), by (repeat (first | exact In.refl _ | assumption | apply In.alloc | apply In.drewN | apply In.drew | (refine In.step ?_ (by assumption))))⟩
              case measure => simp [intOf]; omega
            · have HF := Lib.hid (HVF1.out (by
                cases hv : vOk t vs k
                · rfl
                · exact absurd (HSF.out.2 hv) hc))
              have hc2 : ¬ ((setTo x t : Nat) : Int) = (2 : Int) ^ t - 1 := by rw [p3]; omega
              generalize hP : (2 : Int) ^ t = P at *
              have hP2 : wrap64 P = P := w64 (by omega)
              have hP3 : wrap64 (P - 1) = P - 1 := w64 (by omega)
              have hc3 : (((setTo x t : Nat) : Int) != P - 1) = true := by simpa using hc2
              generalize ((setTo x t : Nat) : Int) = S' at *
              clear hc hc2 p3 HSF
              go_wp2_with (first | (go_at_call 61; refine (sIn _ _ _ _).mono ?_; rintro e w' ⟨rfl, rfl⟩) | (go_at_call 57; refine (iIn _ _ _ _).mono ?_; rintro e w' ⟨rfl, rfl⟩))
              go_ret
              exact Val.mk' (v_bool HF.out.symm) (by (repeat (first | exact In.refl _ | assumption | apply In.alloc | apply In.drewN | apply In.drew | (refine In.step ?_ (by assumption)))))
          · have HF := Lib.hid (HVF1.out (by rw [HK.out]; simp [hLq]))
            have hne : ((t : Int) == (q : Int)) = false := by simp; omega
            have hne2 : ((t : Int) != (q : Int)) = true := by simp; omega
            clear hLq
            go_wp2_with (first | (go_at_call 61; refine (sIn _ _ _ _).mono ?_; rintro e w' ⟨rfl, rfl⟩) | (go_at_call 57; refine (iIn _ _ _ _).mono ?_; rintro e w' ⟨rfl, rfl⟩))
            go_ret
            exact Val.mk' (v_bool HF.out.symm) (by (repeat (first | exact In.refl _ | assumption | apply In.alloc | apply In.drewN | apply In.drew | (refine In.step ?_ (by assumption)))))
    · obtain rfl : k = m := by omega
      have HT := Lib.hid (HVT.out (allOk_t _ _ HO.out))
      go_wp2
      go_ret
      exact Val.mk' (v_bool HT.out.symm) (by (repeat (first | exact In.refl _ | assumption | apply In.alloc | apply In.drewN | apply In.drew | (refine In.step ?_ (by assumption)))))
end Go.Proofs.Ytbbinndegcnedac
