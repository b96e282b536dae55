/- Chapter 4: FeedingsFor. -/
import Derived.Test.YtkaaebpoljnbnaaC04
namespace Go.Proofs.Ytkaaebpoljnbnaa
open Go.ChangeShapes Go.WideShapes Go.ChangeAt Go.RowKit
set_option linter.unusedVariables false
set_option linter.unusedSimpArgs false

def feedN : Nat → Int → Int → Int → Int → Nat → Int
  | 0, _, _, _, _, _ => -1
  | m + 1, g, f, t, n, k => if n ≤ g then k else if feedB g f t = true then feedN m (g * (t + 1)) (f + 1) t n (k + 1) else -1
def feedsV (g f t n : Int) : Int := if leavB g f && inB n 0 100000 then feedN 1002 g f t n 0 else -1
set_option maxHeartbeats 2000000 in
theorem iFeedingsFor (g f t n : Int) (w : World) : Calls Try.prog 11 #[.agg #[.int .i64 g, .int .i64 f], .int .i64 t, .int .i64 n] w (Val (i64 (feedsV g f t n)) w) := by
  have q0 : Blk (w.alloc (.cells #[.int .i64 g, .int .i64 f] 25)) w.heap.size 25 #[.int .i64 g, .int .i64 f] := Blk.new w _ _
  cases h1 : leavB g f
  · have HV : Hid (feedsV g f t n = -1) := Lib.hid (by simp [feedsV, h1])
    go_enter Try.func11, Try.ntmps11
    go_wp2_with (first | (go_at_call 45; refine (sIn _ _ _ _).mono ?_; rintro e w' ⟨rfl, rfl⟩) | (go_at_call 40; refine (iIn _ _ _ _).mono ?_; rintro e w' ⟨rfl, rfl⟩) | (go_at_call 16; refine (iLeavenOk _ _ _).mono ?_; rintro _ w1 ⟨rfl, hb1⟩) | go_in | (go_end0; simp only []; go_at_K))
    go_ret
    exact Val.mk' (v_int HV.out.symm) (by (repeat (first | exact In.refl _ | assumption | apply In.alloc | apply In.drewN | apply In.drew | (refine In.step ?_ (by assumption)))))
  cases h2 : inB n 0 100000
  · have HV : Hid (feedsV g f t n = -1) := Lib.hid (by simp [feedsV, h2])
    go_enter Try.func11, Try.ntmps11
    go_wp2_with (first | (go_at_call 45; refine (sIn _ _ _ _).mono ?_; rintro e w' ⟨rfl, rfl⟩) | (go_at_call 40; refine (iIn _ _ _ _).mono ?_; rintro e w' ⟨rfl, rfl⟩) | (go_at_call 16; refine (iLeavenOk _ _ _).mono ?_; rintro _ w1 ⟨rfl, hb1⟩) | go_in | (go_end0; simp only []; go_at_K))
    go_ret
    exact Val.mk' (v_int HV.out.symm) (by (repeat (first | exact In.refl _ | assumption | apply In.alloc | apply In.drewN | apply In.drew | (refine In.step ?_ (by assumption)))))
  have HV : Hid (feedsV g f t n = feedN 1002 g f t n 0) := Lib.hid (by simp [feedsV, h1, h2])
  have HL := Lib.hid h1
  go_enter Try.func11, Try.ntmps11
  go_wp2_with fail
  refine (iLeavenOk g f _).mono ?_
  rintro _ w1 ⟨rfl, hb1⟩
  have i1 : In w.heap.size w w1 := In.step (by (repeat (first | exact In.refl _ | assumption | apply In.alloc | apply In.drewN | apply In.drew | (refine In.step ?_ (by assumption))))) hb1
  have k1 : Blk w1 w.heap.size 25 #[.int .i64 g, .int .i64 f] := Blk.step q0 hb1
  clear hb1 q0
  go_wp2_with (first | (go_at_call 45; refine (sIn _ _ _ _).mono ?_; rintro e w' ⟨rfl, rfl⟩) | (go_at_call 40; refine (iIn _ _ _ _).mono ?_; rintro e w' ⟨rfl, rfl⟩) | go_in | (go_end0; simp only []; go_at_K))
  clear h1 h2
  go_loopw [7] (fun s wr => ∃ (g' f' : Int) (j m : Nat), s = .int .i64 j ∧ j + m = 1002 ∧ f' = f + j ∧ Blk wr w.heap.size 25 #[.int .i64 g', .int .i64 f'] ∧ In w.heap.size w wr ∧ leavB g' f' = true ∧ feedsV g f t n = feedN m g' f' t n j) (fun s _ => 1002 - (intOf s).toNat)
  case atStart => exact ⟨g, f, 0, 1002, rfl, rfl, by simp, k1, i1, HL.out, HV.out⟩
  case round =>
    clear k1 i1
    obtain ⟨g', f', j, m, rfl, hm, hf, k1, i1, hl, hv⟩ := hrel
    have HM := Lib.hid hf
    have HL2 := Lib.hid hl
    have HV2 := Lib.hid hv
    have hl2 := hl
    simp only [leavB, Bool.and_eq_true] at hl2
    obtain ⟨d1, d2⟩ := inB_tt hl2.1
    obtain ⟨d3, d4⟩ := inB_tt hl2.2
    obtain ⟨d5, d6⟩ := inB_tt (by have := HL.out; simp only [leavB, Bool.and_eq_true] at this; exact this.2)
    have hj : (j : Int) ≤ 1000 := by omega
    have hm1 : 1 ≤ m := by omega
    have HMM := Lib.hid hm
    clear hf hl hv hl2 hm
    have c0 : wr.cell? ⟨w.heap.size, 0, none⟩ = some (.int .i64 g') := k1.cell 0
    have c1 : wr.cell? ⟨w.heap.size, 1, none⟩ = some (.int .i64 f') := k1.cell 1
    obtain ⟨m, rfl⟩ : ∃ m', m = m' + 1 := ⟨m - 1, by omega⟩
    by_cases hlt : g' < n
    · cases hB : feedB g' f' t
      · have hF : feedV g' f' t = .tuple #[.agg #[.int .i64 g', .int .i64 f'], .bool false] := by simp [feedV, hB]
        have HF := Lib.hid hF
        have HS : Hid (feedN (m + 1) g' f' t n j = -1) := Lib.hid (by simp [feedN, hB]; omega)
        clear hF hB
        go_wp2_with fail
        refine (iFeed g' f' t _).mono ?_
        rintro _ w2 ⟨rfl, hb2⟩
        rw [HF.out]
        go_wp2
        go_ret
        exact Val.mk' (v_int (by rw [HV2.out, HS.out])) (by (repeat (first | exact In.refl _ | assumption | apply In.alloc | apply In.drewN | apply In.drew | (refine In.step ?_ (by assumption)))))
      · have hF : feedV g' f' t = .tuple #[.agg #[.int .i64 (g' * (t + 1)), .int .i64 (f' + 1)], .bool true] := by simp [feedV, hB]
        have HF := Lib.hid hF
        have HS : Hid (feedN (m + 1) g' f' t n j = feedN m (g' * (t + 1)) (f' + 1) t n (j + 1)) := Lib.hid (by simp [feedN, hB]; omega)
        have HLN : Hid (leavB (g' * (t + 1)) (f' + 1) = true) := Lib.hid (by simp only [feedB, Bool.and_eq_true] at hB; exact hB.2)
        clear hF hB
        go_wp2_with fail
        refine (iFeed g' f' t _).mono ?_
        rintro _ w2 ⟨rfl, hb2⟩
        rw [HF.out]
        have i2 : In w.heap.size w w2 := In.step (by (repeat (first | exact In.refl _ | assumption | apply In.alloc | apply In.drewN | apply In.drew | (refine In.step ?_ (by assumption))))) hb2
        have k2 := Blk.step k1 hb2
        have e0 : w2.cell? ⟨w.heap.size, 0, none⟩ = some (.int .i64 g') := k2.cell 0
        have e1 : w2.cell? ⟨w.heap.size, 1, none⟩ = some (.int .i64 f') := k2.cell 1
        have z0 := k2.frozen 0
        have z1 := k2.frozen 1
        have hw2 := k2.lt
        clear hb2 k1 i1 c0 c1
        go_wp2
        go_roundw
        case rel => exact ⟨g' * (t + 1), f' + 1, j + 1, m, by go_num, by have := HMM.out; omega, by have := HM.out; omega, ((k2.set_ 0 _).set_ 1 _).alloc _, ((i2.set_ (Nat.le_refl _) _).set_ (Nat.le_refl _) _).alloc _, HLN.out, by rw [HV2.out, HS.out]⟩
        case measure => simp [intOf]; omega
    · have HS : Hid (feedN (m + 1) g' f' t n j = j) := Lib.hid (by simp [feedN]; omega)
      go_wp2
      go_ret
      exact Val.mk' (v_int (by rw [HV2.out, HS.out])) (by (repeat (first | exact In.refl _ | assumption | apply In.alloc | apply In.drewN | apply In.drew | (refine In.step ?_ (by assumption)))))
end Go.Proofs.Ytkaaebpoljnbnaa
