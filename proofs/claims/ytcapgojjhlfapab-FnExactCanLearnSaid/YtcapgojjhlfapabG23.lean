/- Chapter 23: IsComplete. -/
import Derived.Test.YtcapgojjhlfapabF23
namespace Go.Proofs.Ytcapgojjhlfapab
open Go.ChangeShapes Go.WideShapes Go.ChangeAt Go.RowKit
set_option linter.unusedVariables false
set_option linter.unusedSimpArgs false
set_option maxHeartbeats 2000000

def compAt (xs : List SkillR) (ts : List Int) (i : Nat) : Bool := needsB xs ts (ts.getD i 0).toNat
def knB (n : Nat) (xs : List SkillR) (m : Nat) (ts : List Int) : Bool := skOk n xs && risB ts 0 ((n : Int) - 1) m
def compV (n : Nat) (xs : List SkillR) (m : Nat) (ts : List Int) : Bool := knB n xs m ts && allOk (compAt xs ts) m
theorem iKnown (A : Option Addr) (n c : Nat) (xs : List SkillR) (B : Option Addr) (m d : Nat) (ts : List Int) (w : World) (hn : n ≤ maxLen) (hx : ReadsSkill w A n xs) (hm : m ≤ maxLen) (ht : ReadsI w B m ts) : Calls Try.prog 40 #[.slice A n c, .slice B m d] w (Val (.bool (knB n xs m ts)) w) := by
  have HV : Hid (knB n xs m ts = (skOk n xs && risB ts 0 ((n : Int) - 1) m)) := Lib.hid rfl
  go_enter Try.func40, Try.ntmps40
  go_wp2_with fail
  refine (iSkillsOk A n c xs _ hn hx).mono ?_
  rintro _ w1 ⟨rfl, hb1⟩
  cases h1 : skOk n xs
  · go_wp2
    go_ret
    exact Val.mk' (v_bool (by rw [HV.out, h1]; rfl)) (by (repeat (first | exact In.refl _ | assumption | apply In.alloc | apply In.drewN | apply In.drew | (refine In.step ?_ (by assumption)))))
  have hn12 := (skOk_at h1).1
  go_wp2_with fail
  refine (iRis A n c B m d ts _ (by omega) hm (ht.below hb1 (Nat.le_refl _))).mono ?_
  rintro _ w2 ⟨rfl, hb2⟩
  go_wp2
  go_ret
  exact Val.mk' (v_bool (by rw [HV.out, h1]; rfl)) (by (repeat (first | exact In.refl _ | assumption | apply In.alloc | apply In.drewN | apply In.drew | (refine In.step ?_ (by assumption)))))
theorem iIsComplete (A : Option Addr) (n c : Nat) (xs : List SkillR) (B : Option Addr) (m d : Nat) (ts : List Int) (w : World) (hn : n ≤ maxLen) (hx : ReadsSkill w A n xs) (hm : m ≤ maxLen) (ht : ReadsI w B m ts) : Calls Try.prog 28 #[.slice A n c, .slice B m d] w (Val (.bool (compV n xs m ts)) w) := by
  have HV : Hid (compV n xs m ts = (knB n xs m ts && allOk (compAt xs ts) m)) := Lib.hid rfl
  have HTT := Lib.hid ht
  go_enter Try.func28, Try.ntmps28
  go_wp2_with fail
  refine (iKnown A n c xs B m d ts _ hn hx hm ht).mono ?_
  rintro _ w1 ⟨rfl, hb1⟩
  cases h1 : knB n xs m ts
  · go_wp2
    go_ret
    exact Val.mk' (v_bool (by rw [HV.out, h1]; rfl)) (by (repeat (first | exact In.refl _ | assumption | apply In.alloc | apply In.drewN | apply In.drew | (refine In.step ?_ (by assumption)))))
  have hkn := h1
  simp only [knB, Bool.and_eq_true] at hkn
  have hn12 := (skOk_at hkn.1).1
  have HRI := Lib.hid (risB_in hkn.2)
  have HX1 := Lib.hid (hx.below hb1)
  have HT1 := Lib.hid (ht.below hb1 (Nat.le_refl _))
  have hI1 : In w.heap.size w w1 := by (repeat (first | exact In.refl _ | assumption | apply In.alloc | apply In.drewN | apply In.drew | (refine In.step ?_ (by assumption))))
  have hmm : m ≤ maxLen := hm
  unfold maxLen at hm
  clear hkn hb1 hx ht
  go_wp2
  go_loop [13] (fun i => ∃ k : Nat, k ≤ m ∧ i = .int .i64 k ∧ (∀ i, i < k → compAt xs ts i = true)) (fun i => m - (intOf i).toNat)
  case atStart => exact ⟨0, Nat.zero_le _, rfl, fun i hi => absurd hi (Nat.not_lt_zero _)⟩
  case round =>
    obtain ⟨k, hk, rfl, ho⟩ := hrel
    have HO := Lib.hid ho
    clear ho
    by_cases hlt : k < m
    · obtain ⟨a, rfl, ha⟩ := HT1.out.2 k hlt
      have hr := HRI.out k hlt
      have HK : Hid (compAt xs ts k = needsB xs ts (ts.getD k 0).toNat) := Lib.hid rfl
      generalize ts.getD k 0 = x at ha hr HK
      obtain ⟨X, rfl⟩ : ∃ X : Nat, x = (X : Int) := ⟨x.toNat, by omega⟩
      simp only [Int.toNat_natCast] at HK
      have hXn : X < n := by omega
      have HC := Lib.hid (iNeeds A n c xs X (some a) m d ts w1 hXn (by omega) hmm HX1.out HT1.out)
      go_wp2_with fail
      refine HC.out.mono ?_
      rintro _ _ ⟨rfl, rfl⟩
      cases h2 : needsB xs ts X
      · have HG : Hid (compV n xs m ts = false) := Lib.hid (by rw [HV.out, allOk_f _ _ k hlt (by rw [HK.out]; exact h2)]; simp)
        go_wp2
        go_ret
        exact Val.mk' (v_bool HG.out.symm) (by (repeat (first | exact In.refl _ | assumption | apply In.alloc | apply In.drewN | apply In.drew | (refine In.step ?_ (by assumption)))))
      · go_wp2
        go_round
        case rel => exact ⟨k + 1, by omega, by go_num, fun i hi => by
            by_cases e : i = k
            · subst e; rw [HK.out]; exact h2
            · exact HO.out i (by omega)⟩
        case measure => simp [intOf]; omega
    · obtain rfl : k = m := by omega
      go_wp2
      go_ret
      exact Val.mk' (v_bool (by rw [HV.out, h1, allOk_t _ _ HO.out]; rfl)) (by (repeat (first | exact In.refl _ | assumption | apply In.alloc | apply In.drewN | apply In.drew | (refine In.step ?_ (by assumption)))))
set_option maxHeartbeats 4000000 in
theorem sIsComplete (A : Option Addr) (n c : Nat) (xs : List SkillR) (B : Option Addr) (m d : Nat) (ts : List Int) (w : World) (hn : n ≤ maxLen) (hx : ReadsSkill w A n xs) (hm : m ≤ maxLen) (ht : ReadsI w B m ts) : Calls Try.prog 27 #[.slice A n c, .slice B m d] w (Val (.bool (compV n xs m ts)) w) := by
  have HV : Hid (compV n xs m ts = (skOk n xs && risB ts 0 ((n : Int) - 1) m && allOk (compAt xs ts) m)) := Lib.hid rfl
  go_enter Try.func27, Try.ntmps27
  go_wp2_with fail
  refine (sSkillsOk A n c xs _ hn hx).mono ?_
  rintro _ w1 ⟨rfl, hb1⟩
  cases h1 : skOk n xs
  · go_wp2
    go_ret
    exact Val.mk' (v_bool (by rw [HV.out, h1]; rfl)) (by (repeat (first | exact In.refl _ | assumption | apply In.alloc | apply In.drewN | apply In.drew | (refine In.step ?_ (by assumption)))))
  have hn12 := (skOk_at h1).1
  go_wp2_with fail
  refine (sRising B m d ts 0 ((n : Int) - 1) _ hm (ht.below hb1 (Nat.le_refl _))).mono ?_
  rintro _ w2 ⟨rfl, hb2⟩
  cases h2 : risB ts 0 ((n : Int) - 1) m
  · go_wp2
    go_ret
    exact Val.mk' (v_bool (by rw [HV.out, h1, h2]; rfl)) (by (repeat (first | exact In.refl _ | assumption | apply In.alloc | apply In.drewN | apply In.drew | (refine In.step ?_ (by assumption)))))
  have hI1 : In w.heap.size w w2 := by (repeat (first | exact In.refl _ | assumption | apply In.alloc | apply In.drewN | apply In.drew | (refine In.step ?_ (by assumption))))
  have HRI := Lib.hid (risB_in h2)
  have HX1 := Lib.hid (hx.in_ hI1)
  have HT1 := Lib.hid (ht.below hI1.below (Nat.le_refl _))
  have hmm : m ≤ maxLen := hm
  unfold maxLen at hm
  clear hb1 hb2 hx ht
  go_wp2
  go_loop [5] (fun i => ∃ k : Nat, k ≤ m ∧ i = .int .i64 k ∧ (∀ i, i < k → compAt xs ts i = true)) (fun i => m - (intOf i).toNat)
  case atStart => exact ⟨0, Nat.zero_le _, rfl, fun i hi => absurd hi (Nat.not_lt_zero _)⟩
  case round =>
    obtain ⟨k, hk, rfl, ho⟩ := hrel
    have HO := Lib.hid ho
    clear ho
    by_cases hlt : k < m
    · obtain ⟨a, rfl, ha⟩ := HT1.out.2 k hlt
      have hr := HRI.out k hlt
      have HK : Hid (compAt xs ts k = needsB xs ts (ts.getD k 0).toNat) := Lib.hid rfl
      generalize ts.getD k 0 = x at ha hr HK
      obtain ⟨X, rfl⟩ : ∃ X : Nat, x = (X : Int) := ⟨x.toNat, by omega⟩
      simp only [Int.toNat_natCast] at HK
      have hXn : X < n := by omega
      obtain ⟨a2, rfl, C, c', ⟨h0, h9⟩, g1, g2, hrr⟩ := HX1.out.2 X hXn
      have HN : Hid (needsB xs ts X = allOk (fun i => hasN ts ((needs xs X).getD i 0)) (needs xs X).length) := Lib.hid rfl
      unfold needs at HN
      generalize (xs.getD X z23).f0 = ns at *
      have hnm : ns.length ≤ maxLen := Nat.le_trans g1 g2
      have HR := Lib.hid hrr
      clear g1 g2 hrr h9
      unfold maxLen at hnm
      go_wp2
      go_loop [6] (fun i => ∃ t : Nat, t ≤ ns.length ∧ i = .int .i64 t ∧ (∀ i, i < t → hasN ts (ns.getD i 0) = true)) (fun i => ns.length - (intOf i).toNat)
      case atStart => exact ⟨0, Nat.zero_le _, rfl, fun i hi => absurd hi (Nat.not_lt_zero _)⟩
      case round =>
        obtain ⟨t, htt, rfl, hq⟩ := hrel
        have HQ := Lib.hid hq
        clear hq
        by_cases hlt2 : t < ns.length
        · obtain ⟨b, rfl, hb⟩ := HR.out.2 t hlt2
          have HF : Hid (hasN ts (ns.getD t 0) = false → compV n xs m ts = false) := Lib.hid fun h => by
            rw [HV.out, allOk_f _ _ k hlt (by rw [HK.out, HN.out]; exact allOk_f _ _ t hlt2 h)]; simp
          generalize hx0 : ns.getD t 0 = y at *
          have HX := Lib.hid hx0
          clear hx0
          go_wp2_with fail
          refine (sHas (some a) m d ts y _ hmm HT1.out).mono ?_
          rintro _ _ ⟨rfl, rfl⟩
          cases h3 : hasN ts y
          · have HG := Lib.hid (HF.out h3)
            go_wp2
            go_ret
            exact Val.mk' (v_bool HG.out.symm) (by (repeat (first | exact In.refl _ | assumption | apply In.alloc | apply In.drewN | apply In.drew | (refine In.step ?_ (by assumption)))))
          · go_wp2
            go_round
            case rel => exact ⟨t + 1, by omega, by go_num, fun i hi => by
                by_cases e : i = t
                · subst e; rw [HX.out]; exact h3
                · exact HQ.out i (by omega)⟩
            case measure => simp [intOf]; omega
        · obtain rfl : t = ns.length := by omega
          have HT : Hid (compAt xs ts k = true) := Lib.hid (by rw [HK.out, HN.out]; exact allOk_t _ _ HQ.out)
          go_wp2
          go_round
          case rel => exact ⟨k + 1, by omega, by go_num, fun i hi => by
              by_cases e : i = k
              · subst e; exact HT.out
              · exact HO.out i (by omega)⟩
          case measure => simp [intOf]; omega
    · obtain rfl : k = m := by omega
      go_wp2
      go_ret
      exact Val.mk' (v_bool (by rw [HV.out, h1, h2, allOk_t _ _ HO.out]; rfl)) (by (repeat (first | exact In.refl _ | assumption | apply In.alloc | apply In.drewN | apply In.drew | (refine In.step ?_ (by assumption)))))
end Go.Proofs.Ytcapgojjhlfapab
