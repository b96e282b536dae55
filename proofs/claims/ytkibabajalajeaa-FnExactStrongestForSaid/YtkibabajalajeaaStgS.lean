/- Chapter 27: StrongestFor, the model. -/
import Derived.Test.YtkibabajalajeaaStg
import Derived.Test.YtkibabajalajeaaQuiet
import Derived.BigQuiet
import Derived.Deep.QuietTactic
namespace Go.Proofs.Ytkibabajalajeaa
open Go.ChangeShapes Go.WideShapes Go.ChangeAt Go.RowKit
set_option linter.unusedVariables false
set_option linter.unusedSimpArgs false
set_option maxHeartbeats 2000000

theorem gT_tot {xs : List FlourR} {n : Nat} {tot : Int} (hk : ∀ i, i < n → 0 ≤ kI xs i) (ht : 0 ≤ tot) (r : Nat) : 0 ≤ (sT xs n tot r).1 ∧ (sT xs n tot r).1 ≤ tot := by
  induction r with
  | zero => exact ⟨ht, Int.le_refl _⟩
  | succ r ih =>
    rw [sT]
    split
    · rename_i h
      have hb : (bst xs (sT xs n tot r).2 n).toNat < n := by
        rcases bst_is (xs := xs) (sT xs n tot r).2 n with ⟨h1, _⟩ | ⟨b, h1, h2, _⟩ <;> omega
      have := hk _ hb
      simp only []
      omega
    · exact ih
set_option maxHeartbeats 8000000 in
set_option maxRecDepth 20000 in
theorem sStrongestFor (A : Option Addr) (n c : Nat) (xs : List FlourR) (tot : Int) (w : World) (hn : n ≤ maxLen) (hx : ReadsFlour w A n xs) : Calls Try.prog 20 #[.slice A n c, .int .i64 tot] w (Val (.int .i64 (stgV n xs tot)) w) := by
  obtain ⟨i0, hi0, hz0, hz1, hz2⟩ := info_parts infoI
  have HV : Hid (stgV n xs tot = if floursB n xs && inB tot 1 500 then (if 0 < gT xs n tot n then -1 else strengthV n xs n ((List.range n).map (gK xs n tot n))) else -1) := Lib.hid rfl
  have HNN := Lib.hid hn
  go_enter Try.func20, Try.ntmps20
  go_wp2_with fail
  refine (sFloursOk A n c xs _ hn hx).mono ?_
  rintro _ w1 ⟨rfl, hb1⟩
  cases h1 : floursB n xs
  · have HF : Hid (stgV n xs tot = -1) := Lib.hid (by rw [HV.out, h1]; rfl)
    go_wp2
    go_ret
    exact Val.mk' (v_int HF.out.symm) (by (repeat (first | exact In.refl _ | assumption | apply In.alloc | apply In.drewN | apply In.drew | (refine In.step ?_ (by assumption)))))
  go_wp2_with fail
  refine (sIn tot 1 500 _).mono ?_
  rintro _ _ ⟨rfl, rfl⟩
  cases h2 : inB tot 1 500
  · have HF : Hid (stgV n xs tot = -1) := Lib.hid (by rw [HV.out, h1, h2]; rfl)
    go_wp2
    go_ret
    exact Val.mk' (v_int HF.out.symm) (by (repeat (first | exact In.refl _ | assumption | apply In.alloc | apply In.drewN | apply In.drew | (refine In.step ?_ (by assumption)))))
  have htot := inB_tt h2
  obtain ⟨hn1, hn5, hfl⟩ := flours_at h1
  have HFL : Hid (∀ i, i < n → 50 ≤ sI xs i ∧ sI xs i ≤ 500 ∧ 0 ≤ kI xs i ∧ kI xs i ≤ 100) := Lib.hid fun i hi => by
    have := fl_in (hfl i hi)
    unfold sI kI; omega
  have HKK : Hid (∀ i, i < n → 0 ≤ kI xs i) := Lib.hid fun i hi => (HFL.out i hi).2.2.1
  have HTT := Lib.hid (gT_tot (n := n) HKK.out (show 0 ≤ tot by omega))
  obtain ⟨he1, he2⟩ := s_end (tot := tot) HKK.out (by omega)
  have hlist : (List.range n).map (sT xs n tot n).2 = (List.range n).map (gK xs n tot n) := List.map_congr_left fun i hi => he2 i (List.mem_range.1 hi)
  have HE : Hid (stgV n xs tot = if 0 < (sT xs n tot n).1 then -1 else strengthV n xs n ((List.range n).map (sT xs n tot n).2)) := Lib.hid (by rw [HV.out, h1, h2, he1, hlist]; rfl)
  have hI1 : In w.heap.size w w1 := by (repeat (first | exact In.refl _ | assumption | apply In.alloc | apply In.drewN | apply In.drew | (refine In.step ?_ (by assumption))))
  have HXX := Lib.hid hx
  clear hx hb1 h1 h2 HV he1 he2 hlist hfl hn
  go_wp2_with (at_make; refine wpList_make_full _ rfl (.tmp 20) (.tmp 20) 52 rfl w1.heap.size 3 i0 (.int .i64 0) 1 Try.underlying52 hi0 hz0 hz1 .i64 .i64 (n : Int) (n : Int) n rfl rfl rfl rfl ?h2 ?h3 ?h4 ?_)
  case h2 => rw [hz2]; omega
  case h3 => unfold maxLen; omega
  case h4 => exact Nat.le_refl _
  intro w2 hown0 hgrow0
  have hb0 : Below w1.heap.size w1 w2 := (Below.refl _ _).grown hgrow0 (Nat.le_refl _) (fun j hj => by cases hj)
  have hN2 : Nums w2 w1.heap.size n (fun _ => 0) := nums_made (by rw [toList_madeCells_one] at hown0; exact hown0)
  have hI2 := hI1.step hb0
  have hgw : w.heap.size ≤ w1.heap.size := hI1.size
  clear hgrow0 hown0 hb0 hI1
  generalize w1.heap.size = g at *
  go_wp2
  go_loopw [5, 7] (fun e i wr => ∃ r : Nat, r ≤ n ∧ i = .int .i64 r ∧ e = .int .i64 (sT xs n tot r).1 ∧ Nums wr g n (sT xs n tot r).2 ∧ In w.heap.size w wr) (fun _ i _ => n - (intOf i).toNat)
  case atStart => exact ⟨0, Nat.zero_le _, rfl, rfl, hN2, hI2⟩
  case round =>
    clear hN2 hI2
    obtain ⟨r, hr, rfl, rfl, hN, hi⟩ := hrel
    have htt := HTT.out r
    by_cases hlt : r < n
    · have HS : Hid (sT xs n tot (r + 1) = if 0 ≤ bst xs (sT xs n tot r).2 n ∧ 0 < (sT xs n tot r).1 then ((sT xs n tot r).1 - min (sT xs n tot r).1 (kI xs (bst xs (sT xs n tot r).2 n).toNat), updI (sT xs n tot r).2 (bst xs (sT xs n tot r).2 n).toNat (min (sT xs n tot r).1 (kI xs (bst xs (sT xs n tot r).2 n).toNat))) else sT xs n tot r) := Lib.hid rfl
      generalize sT xs n tot r = st at *
      obtain ⟨T, K⟩ := st
      simp only at hN htt HS
      have HN := Lib.hid hN
      have HXW := Lib.hid (HXX.out.in_ hi)
      have HI := Lib.hid hi
      clear hN
      go_wp2
      go_loopw [8, 9] (fun b i wr2 => ∃ k : Nat, k ≤ n ∧ i = .int .i64 k ∧ b = .int .i64 (bst xs K k) ∧ In w.heap.size w wr2 ∧ Nums wr2 g n K) (fun _ i _ => n - (intOf i).toNat)
      case atStart => exact ⟨0, Nat.zero_le _, rfl, rfl, hi, HN.out⟩
      case round =>
        clear hi
        obtain ⟨k, hk, rfl, rfl, hi, hN⟩ := hrel
        have hbi := bst_is (xs := xs) K k
        by_cases hkn : k < n
        · have HB : Hid (bst xs K (k + 1) = if K k = 0 ∧ 0 < kI xs k ∧ (bst xs K k < 0 ∨ sI xs (bst xs K k).toNat < sI xs k) then (k : Int) else bst xs K k) := Lib.hid rfl
          have cK := hN.cell k hkn
          obtain ⟨a, rfl, ca0, ca1, ca2⟩ := (HXX.out.in_ hi).2 k hkn
          have hf := HFL.out k hkn
          have hks : (xs.getD k z27).f0 = sI xs k := rfl
          have hkk : (xs.getD k z27).f2 = kI xs k := rfl
          rw [hks] at ca0
          rw [hkk] at ca2
          have HNN2 := Lib.hid hN
          clear hks hkk ca1 hN
          by_cases hK0 : K k = 0
          rotate_left
          · have HB1 : Hid (bst xs K (k + 1) = bst xs K k) := Lib.hid (HB.out.trans (if_neg fun h => hK0 h.1))
            have hK1 : (K k == 0) = false := by simp [hK0]
            generalize K k = Kk at *
            generalize bst xs K k = bb at *
            clear hbi HB
            go_wp2
            go_quiet (fail)
            go_wp2
            go_roundw
            case rel => exact ⟨k + 1, by omega, by go_num, v_int HB1.out.symm, hi.drewN _, HNN2.out.step (below_drewN (Below.refl _ _) _)⟩
            case measure => simp [intOf]; omega
          rw [hK0] at cK
          by_cases hk0 : 0 < kI xs k
          rotate_left
          · have HB1 : Hid (bst xs K (k + 1) = bst xs K k) := Lib.hid (HB.out.trans (if_neg fun h => hk0 h.2.1))
            obtain hz : kI xs k = 0 := by omega
            rw [hz] at ca2
            generalize bst xs K k = bb at *
            generalize sI xs k = sk at *
            clear hbi HB hK0 hz hk0
            go_wp2
            go_quiet (fail)
            go_wp2
            go_roundw
            case rel => exact ⟨k + 1, by omega, by go_num, v_int HB1.out.symm, hi.drewN _, HNN2.out.step (below_drewN (Below.refl _ _) _)⟩
            case measure => simp [intOf]; omega
          rcases hbi with ⟨hb1, _⟩ | ⟨b, hb1, hbk, _, _⟩
          · have HB1 : Hid (bst xs K (k + 1) = k) := Lib.hid (HB.out.trans (if_pos ⟨hK0, hk0, .inl (by omega)⟩))
            rw [hb1]
            generalize sI xs k = sk at *
            generalize kI xs k = kk at *
            clear HB hK0 hb1
            go_wp2
            go_quiet (fail)
            go_wp2
            go_roundw
            case rel => exact ⟨k + 1, by omega, by go_num, v_int HB1.out.symm, hi.drewN _, HNN2.out.step (below_drewN (Below.refl _ _) _)⟩
            case measure => simp [intOf]; omega
          · obtain ⟨a2, ea, cb0, _, _⟩ := (HXX.out.in_ hi).2 b (by omega)
            obtain rfl : a = a2 := Option.some.inj ea
            have hbs : (xs.getD b z27).f0 = sI xs b := rfl
            rw [hbs] at cb0
            have hbn : b < n := by omega
            rw [hb1] at HB ⊢
            have HB2 : Hid (bst xs K (k + 1) = if sI xs b < sI xs k then (k : Int) else b) := Lib.hid (by
              rw [HB.out]
              by_cases hs : sI xs b < sI xs k
              · rw [if_pos hs, if_pos ⟨hK0, hk0, .inr (by simpa using hs)⟩]
              · rw [if_neg hs, if_neg (fun h => by
                  rcases h.2.2 with h5 | h5
                  · omega
                  · exact hs (by simpa using h5))])
            generalize sI xs k = sk at *
            generalize sI xs b = sb at *
            generalize kI xs k = kk at *
            have hb0 : decide ((b : Int) < 0) = false := by simp
            clear HB hK0 hb1 hbs ea
            by_cases hs : sb < sk
            · have HB3 := Lib.hid (HB2.out.trans (if_pos hs))
              clear HB2
              go_wp2
              go_quiet (fail)
              go_wp2
              go_roundw
              case rel => exact ⟨k + 1, by omega, by go_num, v_int HB3.out.symm, hi.drewN _, HNN2.out.step (below_drewN (Below.refl _ _) _)⟩
              case measure => simp [intOf]; omega
            · have HB3 := Lib.hid (HB2.out.trans (if_neg hs))
              clear HB2
              have hs2 : decide (sb < sk) = false := by simp; omega
              go_wp2
              go_quiet (fail)
              go_wp2
              go_roundw
              case rel => exact ⟨k + 1, by omega, by go_num, v_int HB3.out.symm, hi.drewN _, HNN2.out.step (below_drewN (Below.refl _ _) _)⟩
              case measure => simp [intOf]; omega
        · obtain rfl : k = n := by omega
          rcases hbi with ⟨hb1, _⟩ | ⟨b, hb1, hbk, _, _⟩
          · have HS1 : Hid (sT xs k tot (r + 1) = (T, K)) := Lib.hid (HS.out.trans (if_neg (by rw [hb1]; omega)))
            rw [hb1]
            clear HS hb1
            go_wp2
            go_roundw
            case rel => exact ⟨r + 1, by omega, by go_num, v_int (by rw [HS1.out]), by rw [HS1.out]; exact hN, hi⟩
            case measure => simp [intOf]; omega
          · rw [hb1] at HS ⊢
            by_cases hT : 0 < T
            · have HS1 : Hid (sT xs k tot (r + 1) = (T - min T (kI xs b), updI K b (min T (kI xs b)))) := Lib.hid (HS.out.trans (if_pos ⟨by omega, hT⟩))
              obtain ⟨a, rfl, _, _, cb2⟩ := (HXX.out.in_ hi).2 b hbk
              have hbk2 : (xs.getD b z27).f2 = kI xs b := rfl
              rw [hbk2] at cb2
              have hf := HFL.out b hbk
              generalize kI xs b = kb at *
              have cKb := hN.cell b hbk
              have zKb := hN.free b
              have hNs := fun q : Int => hN.set_ b q
              have HNs := Lib.hid hNs
              have HIs := Lib.hid (fun q : Int => (hi.set_ (p := ⟨g, b, none⟩) hgw (.int .i64 q) : In w.heap.size w (wr.setCell ⟨g, b, none⟩ (.int .i64 q))))
              clear HS hb1 hbk2 hN hNs
              by_cases hm : kb < T
              · have HM : Hid (min T kb = kb) := Lib.hid (by omega)
                rw [HM.out] at HS1
                go_wp2
                go_roundw
                case rel => exact ⟨r + 1, by omega, by go_num, v_int (by rw [HS1.out]), by rw [HS1.out]; exact HNs.out kb, HIs.out kb⟩
                case measure => simp [intOf]; omega
              · have HM : Hid (min T kb = T) := Lib.hid (by omega)
                rw [HM.out] at HS1
                go_wp2
                go_roundw
                case rel => exact ⟨r + 1, by omega, by go_num, v_int (by rw [HS1.out]; show (0 : Int) = T - T; omega), by rw [HS1.out]; exact HNs.out T, HIs.out T⟩
                case measure => simp [intOf]; omega
            · have HS1 : Hid (sT xs k tot (r + 1) = (T, K)) := Lib.hid (HS.out.trans (if_neg (by omega)))
              clear HS hb1
              go_wp2
              go_roundw
              case rel => exact ⟨r + 1, by omega, by go_num, v_int (by rw [HS1.out]), by rw [HS1.out]; exact hN, hi⟩
              case measure => simp [intOf]; omega
    · obtain rfl : r = n := by omega
      by_cases hT : 0 < (sT xs r tot r).1
      · have HF : Hid (stgV r xs tot = -1) := Lib.hid (HE.out.trans (if_pos hT))
        go_wp2
        go_ret
        exact Val.mk' (v_int HF.out.symm) (by (repeat (first | exact In.refl _ | assumption | apply In.alloc | apply In.drewN | apply In.drew | (refine In.step ?_ (by assumption)))))
      · have HF : Hid (stgV r xs tot = strengthV r xs r ((List.range r).map (sT xs r tot r).2)) := Lib.hid (HE.out.trans (if_neg hT))
        have HR := Lib.hid hN.reads
        have HXW := Lib.hid (HXX.out.in_ hi)
        clear hN HE
        go_wp2_with fail
        refine (sStrengthOf A r c xs _ r _ _ _ HNN.out HXW.out HNN.out HR.out).mono ?_
        rintro _ w3 ⟨rfl, hb3⟩
        go_wp2
        go_ret
        exact Val.mk' (v_int HF.out.symm) (by (repeat (first | exact In.refl _ | assumption | apply In.alloc | apply In.drewN | apply In.drew | (refine In.step ?_ (by assumption)))))
end Go.Proofs.Ytkibabajalajeaa
