/- Chapter 26: BestStart, the model. -/
import Derived.Test.YthndjpklfgcpmaaG26
namespace Go.Proofs.Ythndjpklfgcpmaa
open Go.ChangeShapes Go.WideShapes Go.ChangeAt Go.RowKit
set_option linter.unusedVariables false
set_option linter.unusedSimpArgs false
set_option maxHeartbeats 2000000

set_option maxRecDepth 20000 in
theorem sBestStart (A : Option Addr) (n c : Nat) (xs : List MachineR) (m W : Int) (w : World) (hn : n ≤ maxLen) (hx : ReadsMachine w A n xs) : Calls Try.prog 42 #[.slice A n c, .int .i64 m, .int .i64 W] w (Val (i64 (startV n xs m W)) w) := by
  cases hB : machB n xs
  · have HV : Hid (startV n xs m W = -1) := Lib.hid (start_no (by simp [startB, hB]))
    go_enter Try.func42, Try.ntmps42
    go_wp2_with (go_at_call 65; (with_reducible refine (sMachinesOk A n c xs _ hn hx).mono ?_); rintro _ w1 ⟨rfl, hb1⟩; rw [hB])
    go_ret
    exact Val.mk' (v_int HV.out.symm) (by (repeat (first | exact In.refl _ | assumption | apply In.alloc | apply In.drewN | apply In.drew | (refine In.step ?_ (by assumption)))))
  have hnm : n ≤ 1000 := by have := (mach_at hB).1; omega
  by_cases h12 : n = 12
  · have HV : Hid (startV n xs m W = -1) := Lib.hid (start_no (by simp [startB, h12]))
    have he : ((n : Int) == 12) = true := by simp; omega
    clear h12
    go_enter Try.func42, Try.ntmps42
    go_wp2_with (go_at_call 65; (with_reducible refine (sMachinesOk A n c xs _ hn hx).mono ?_); rintro _ w1 ⟨rfl, hb1⟩; rw [hB])
    go_ret
    exact Val.mk' (v_int HV.out.symm) (by (repeat (first | exact In.refl _ | assumption | apply In.alloc | apply In.drewN | apply In.drew | (refine In.step ?_ (by assumption)))))
  have he : ((n : Int) == 12) = false := by simp; omega
  cases h1 : inB m 1 1440
  · have HV : Hid (startV n xs m W = -1) := Lib.hid (start_no (by simp [startB, h1]))
    clear h12
    go_enter Try.func42, Try.ntmps42
    go_wp2_with (first | (go_at_call 65; (with_reducible refine (sMachinesOk A n c xs _ hn hx).mono ?_); rintro _ w1 ⟨rfl, hb1⟩; rw [hB]) | (go_at_call 48; (with_reducible refine (sInE h1 _).mono ?_); rintro e w' ⟨rfl, rfl⟩) | (go_at_call 48; (with_reducible refine (sInE h2 _).mono ?_); rintro e w' ⟨rfl, rfl⟩))
    go_ret
    exact Val.mk' (v_int HV.out.symm) (by (repeat (first | exact In.refl _ | assumption | apply In.alloc | apply In.drewN | apply In.drew | (refine In.step ?_ (by assumption)))))
  cases h2 : inB W 1 10000
  · have HV : Hid (startV n xs m W = -1) := Lib.hid (start_no (by simp [startB, h2]))
    clear h12
    go_enter Try.func42, Try.ntmps42
    go_wp2_with (first | (go_at_call 65; (with_reducible refine (sMachinesOk A n c xs _ hn hx).mono ?_); rintro _ w1 ⟨rfl, hb1⟩; rw [hB]) | (go_at_call 48; (with_reducible refine (sInE h1 _).mono ?_); rintro e w' ⟨rfl, rfl⟩) | (go_at_call 48; (with_reducible refine (sInE h2 _).mono ?_); rintro e w' ⟨rfl, rfl⟩))
    go_ret
    exact Val.mk' (v_int HV.out.symm) (by (repeat (first | exact In.refl _ | assumption | apply In.alloc | apply In.drewN | apply In.drew | (refine In.step ?_ (by assumption)))))
  have hV0 : startV n xs m W = (amin (stF xs n m.toNat W) (1440 - m.toNat + 1) : Nat) := by
    unfold startV
    rw [if_pos (by simp [startB, hB, h1, h2, h12])]
  obtain ⟨m1, m2⟩ := inB_tt h1
  obtain ⟨W1, W2⟩ := inB_tt h2
  obtain ⟨M, rfl⟩ : ∃ M : Nat, m = (M : Int) := ⟨m.toNat, by omega⟩
  rw [Int.toNat_natCast] at hV0
  obtain ⟨L, hL⟩ : ∃ L : Nat, 1440 - M = L := ⟨_, rfl⟩
  have hLM : (L : Int) + M = 1440 := by omega
  rw [hL] at hV0
  have HV := Lib.hid hV0
  have HLM := Lib.hid hLM
  clear hV0 hL hLM
  obtain ⟨h13, hs⟩ := mach_at hB
  have HS := Lib.hid hs
  have HPW := Lib.hid (pw_all hB)
  have HF : Hid (∀ f, stF xs n M W f = max (pwF xs n (amax (pwF xs n) 1440)) (wmx (pwF xs n) f M + W)) := Lib.hid fun f => rfl
  have HWN := Lib.hid (wmx_nn (pwF xs n))
  have HWU : Hid (∀ a j, wmx (pwF xs n) a j ≤ 120000) := Lib.hid fun a j => wmx_lub _ _ _ _ (by omega) fun i _ => (pw_all hB (a + i)).2
  have HWS := Lib.hid (wmx_succ (pwF xs n))
  have HPK : Hid (wmx (pwF xs n) 0 1440 = pwF xs n (amax (pwF xs n) 1440)) := Lib.hid (wmx_peak _ _ (by omega) fun i _ => (pw_all hB i).1)
  have hpk := pw_all hB (amax (pwF xs n) 1440)
  clear hs h12
  have hPW2 : peakW n xs = pwF xs n (amax (pwF xs n) 1440) := by simp [peakW, hB]
  have HPM := Lib.hid (sPeakTup A n c xs)
  rw [hPW2] at HPM
  clear hPW2
  go_enter Try.func42, Try.ntmps42
  go_wp2_with (first | (go_at_call 65; (with_reducible refine (sMachinesOk A n c xs _ hn hx).mono ?_); rintro _ w1 ⟨rfl, hb1⟩; rw [hB]) | (go_at_call 48; (with_reducible refine (sInE h1 _).mono ?_); rintro e w' ⟨rfl, rfl⟩) | (go_at_call 48; (with_reducible refine (sInE h2 _).mono ?_); rintro e w' ⟨rfl, rfl⟩))
  have i1 : In w.heap.size w w1 := In.step (by (repeat (first | exact In.refl _ | assumption | apply In.alloc | apply In.drewN | apply In.drew | (refine In.step ?_ (by assumption))))) hb1
  refine (sPowers A n c xs _ h13 HS.out (hx.in_ (by (repeat (first | exact In.refl _ | assumption | apply In.alloc | apply In.drewN | apply In.drew | (refine In.step ?_ (by assumption))))))).mono ?_
  rintro _ w2 ⟨g, rfl, hwa, hb2⟩
  have i2 : In w.heap.size w w2 := In.step (by (repeat (first | exact In.refl _ | assumption | apply In.alloc | apply In.drewN | apply In.drew | (refine In.step ?_ (by assumption))))) hb2
  go_wp2_with fail
  refine (HPM.out _ hn (hx.in_ i2)).mono ?_
  rintro _ w3 ⟨rfl, hb3⟩
  have i3 : In w.heap.size w w3 := i2.step hb3
  have hwa3 := hwa.below hb3
  have HW := Lib.hid (fun (u : Nat) (hu : (u : Int) < 1440) => hwa3.cell u (by omega))
  clear hwa hb1 hb2 hb3 i1 i2 hwa3 HPM he h1 h2 hB
  generalize pwF xs n = f at *
  generalize stF xs n M W = F at *
  obtain ⟨pk, hpk9⟩ : ∃ pk, f (amax f 1440) = pk := ⟨_, rfl⟩
  rw [hpk9] at HF HPK hpk ⊢
  clear hpk9
  have H0 := Lib.hid (gbst_0 F)
  have H1 := Lib.hid (gbst_1 F)
  have HG := Lib.hid (gbst_s F)
  have HGE : Hid (gbst F (L + 1) = (amin F (L + 1) : Nat)) := Lib.hid (if_neg (by omega))
  go_wp2
  go_loopw [10, 11, 12, 13, 14, 15] (fun b l i _m _j _n wr => ∃ k : Nat, k ≤ L + 1 ∧ i = .int .i64 k ∧ b = .int .i64 (gbst F k) ∧ l = .int .i64 (glst F k) ∧ In w.heap.size w wr ∧ In w3.heap.size w3 wr) (fun _ _ i _ _ _ _ => L + 1 - (intOf i).toNat)
  case atStart => exact ⟨0, Nat.zero_le _, rfl, rfl, rfl, i3, In.refl _⟩
  case round =>
    clear i3
    obtain ⟨k, hk, rfl, rfl, rfl, hi, hj⟩ := hrel
    by_cases hlt : k ≤ L
    · have hki : (k : Int) + M ≤ 1440 := by have := HLM.out; omega
      obtain ⟨w8, rfl⟩ : ∃ w8, w8 = wr := ⟨_, rfl⟩
      go_upto_region 11 with fail
      go_wp2
      go_loopw [13, 14] (fun b i wr => ∃ j : Nat, j ≤ M ∧ i = .int .i64 ((k + j : Nat) : Int) ∧ b = .int .i64 (wmx f k j) ∧ In w.heap.size w wr ∧ In w3.heap.size w3 wr) (fun _ i _ => k + M - (intOf i).toNat)
      case atStart => exact ⟨0, Nat.zero_le _, rfl, rfl, hi, hj⟩
      case round =>
        clear hi hj
        obtain ⟨j, hjm, rfl, rfl, hi, hj⟩ := hrel
        obtain ⟨q, hq⟩ : ∃ q : Nat, k + j = q := ⟨_, rfl⟩
        have hqi : (q : Int) = (k : Int) + j := by omega
        have HQ := Lib.hid hq
        have hws := HWS.out k j
        have hup := HWU.out k j
        have hnn := HWN.out k j
        rw [hq] at hws ⊢
        clear hq
        obtain ⟨y, hy9⟩ : ∃ y, wmx f k j = y := ⟨_, rfl⟩
        rw [hy9] at hws hup hnn ⊢
        have HQI := Lib.hid hqi
        by_cases hlt2 : j < M
        · have hq14 : (q : Int) < 1440 := by omega
          have hqk : (q : Int) < (k : Int) + M := by omega
          have hck := cell_in (HW.out q hq14) hj
          obtain ⟨x, hx9⟩ : ∃ x, f q = x := ⟨_, rfl⟩
          rw [hx9] at hck hws
          have HWS1 := Lib.hid hws
          clear hws hx9 hy9 hqi hjm
          by_cases hxy : y < x
          all_goals
            go_wp2
            go_roundw
            case rel => exact ⟨j + 1, by omega, by have := HQ.out; go_num, v_int (by rw [HWS1.out]; omega), by (repeat (first | exact In.refl _ | assumption | apply In.alloc | apply In.drewN | apply In.drew | (refine In.step ?_ (by assumption)))), by (repeat (first | exact In.refl _ | assumption | apply In.alloc | apply In.drewN | apply In.drew | (refine In.step ?_ (by assumption))))⟩
            case measure => have := HQ.out; simp [intOf]; omega
        · obtain rfl : M = j := by omega
          have hqk : ¬ (q : Int) < (k : Int) + M := by omega
          have hfk := HF.out k
          rw [hy9] at hfk
          clear hws hy9 hqi hjm
          obtain ⟨x, hx9⟩ : ∃ x, F k = x := ⟨_, rfl⟩
          have HSW := HG.out k
          have HS0 := H1.out
          rw [hx9] at hfk HSW
          have HFK := Lib.hid hfk
          have HX9 := Lib.hid hx9
          clear hfk hx9
          have hxv : pk < y + W ∧ x = y + W ∨ ¬ pk < y + W ∧ x = pk := by have := HFK.out; omega
          rcases hxv with ⟨hmx, rfl⟩ | ⟨hmx, rfl⟩
          · by_cases hk0 : k = 0
            · subst hk0
              have hb0 := H0.out
              obtain ⟨hb1, hl1⟩ := HS0
              have HB1 := Lib.hid hb1
              have HL1 := Lib.hid hl1
              rw [hb0.1, hb0.2]
              clear HSW hb1 hl1 hb0
              go_wp2
              go_roundw
              case rel => exact ⟨1, by omega, by go_num, v_int (by rw [HB1.out]; rfl), v_int (by rw [HL1.out, HX9.out]), by (repeat (first | exact In.refl _ | assumption | apply In.alloc | apply In.drewN | apply In.drew | (refine In.step ?_ (by assumption)))), by (repeat (first | exact In.refl _ | assumption | apply In.alloc | apply In.drewN | apply In.drew | (refine In.step ?_ (by assumption))))⟩
              case measure => have := HLM.out; simp [intOf] <;> omega
            · obtain ⟨hs1, hs2, hs3, hs4⟩ := HSW (by omega)
              have HS3 := Lib.hid hs3
              have HS4 := Lib.hid hs4
              clear hs3 hs4
              obtain ⟨bb, hbb⟩ : ∃ b, gbst F k = b := ⟨_, rfl⟩
              obtain ⟨ll, hll⟩ : ∃ b, glst F k = b := ⟨_, rfl⟩
              rw [hbb] at hs1 HS3 ⊢
              rw [hll] at HS3 HS4 ⊢
              rw [hbb] at hs2
              clear hbb hll HS0 hk0
              have hbn : ¬ bb < 0 := by omega
              by_cases hxl : y + W < ll
              · go_wp2
                go_roundw
                case rel => exact ⟨k + 1, by omega, by go_num, v_int (by rw [HS3.out, if_pos hxl]), v_int (by rw [HS4.out, if_pos hxl]), by (repeat (first | exact In.refl _ | assumption | apply In.alloc | apply In.drewN | apply In.drew | (refine In.step ?_ (by assumption)))), by (repeat (first | exact In.refl _ | assumption | apply In.alloc | apply In.drewN | apply In.drew | (refine In.step ?_ (by assumption))))⟩
                case measure => have := HLM.out; simp [intOf]; omega
              · go_wp2
                go_roundw
                case rel => exact ⟨k + 1, by omega, by go_num, v_int (by rw [HS3.out, if_neg (by omega)]), v_int (by rw [HS4.out, if_neg (by omega)]), by (repeat (first | exact In.refl _ | assumption | apply In.alloc | apply In.drewN | apply In.drew | (refine In.step ?_ (by assumption)))), by (repeat (first | exact In.refl _ | assumption | apply In.alloc | apply In.drewN | apply In.drew | (refine In.step ?_ (by assumption))))⟩
                case measure => have := HLM.out; simp [intOf]; omega
          · by_cases hk0 : k = 0
            · subst hk0
              have hb0 := H0.out
              obtain ⟨hb1, hl1⟩ := HS0
              have HB1 := Lib.hid hb1
              have HL1 := Lib.hid hl1
              rw [hb0.1, hb0.2]
              clear HSW hb1 hl1 hb0
              go_wp2
              go_roundw
              case rel => exact ⟨1, by omega, by go_num, v_int (by rw [HB1.out]; rfl), v_int (by rw [HL1.out, HX9.out]), by (repeat (first | exact In.refl _ | assumption | apply In.alloc | apply In.drewN | apply In.drew | (refine In.step ?_ (by assumption)))), by (repeat (first | exact In.refl _ | assumption | apply In.alloc | apply In.drewN | apply In.drew | (refine In.step ?_ (by assumption))))⟩
              case measure => have := HLM.out; simp [intOf] <;> omega
            · obtain ⟨hs1, hs2, hs3, hs4⟩ := HSW (by omega)
              have HS3 := Lib.hid hs3
              have HS4 := Lib.hid hs4
              clear hs3 hs4
              obtain ⟨bb, hbb⟩ : ∃ b, gbst F k = b := ⟨_, rfl⟩
              obtain ⟨ll, hll⟩ : ∃ b, glst F k = b := ⟨_, rfl⟩
              rw [hbb] at hs1 HS3 ⊢
              rw [hll] at HS3 HS4 ⊢
              rw [hbb] at hs2
              clear hbb hll HS0 hk0
              have hbn : ¬ bb < 0 := by omega
              by_cases hxl : x < ll
              · go_wp2
                go_roundw
                case rel => exact ⟨k + 1, by omega, by go_num, v_int (by rw [HS3.out, if_pos hxl]), v_int (by rw [HS4.out, if_pos hxl]), by (repeat (first | exact In.refl _ | assumption | apply In.alloc | apply In.drewN | apply In.drew | (refine In.step ?_ (by assumption)))), by (repeat (first | exact In.refl _ | assumption | apply In.alloc | apply In.drewN | apply In.drew | (refine In.step ?_ (by assumption))))⟩
                case measure => have := HLM.out; simp [intOf]; omega
              · go_wp2
                go_roundw
                case rel => exact ⟨k + 1, by omega, by go_num, v_int (by rw [HS3.out, if_neg (by omega)]), v_int (by rw [HS4.out, if_neg (by omega)]), by (repeat (first | exact In.refl _ | assumption | apply In.alloc | apply In.drewN | apply In.drew | (refine In.step ?_ (by assumption)))), by (repeat (first | exact In.refl _ | assumption | apply In.alloc | apply In.drewN | apply In.drew | (refine In.step ?_ (by assumption))))⟩
                case measure => have := HLM.out; simp [intOf]; omega
    · have hkk : k = L + 1 := by omega
      have hki : ¬ (k : Int) + M ≤ 1440 := by have := HLM.out; omega
      have hkb : (k : Int) ≤ 1441 := by have := HLM.out; omega
      have hG9 := HGE.out
      rw [← hkk] at hG9
      rw [hG9]
      have HV9 : Hid (startV n xs M W = (amin F k : Nat)) := Lib.hid (by rw [hkk]; exact HV.out)
      clear hG9 hkk hlt
      go_wp2
      go_ret
      exact Val.mk' (v_int HV9.out.symm) (by (repeat (first | exact In.refl _ | assumption | apply In.alloc | apply In.drewN | apply In.drew | (refine In.step ?_ (by assumption)))))
end Go.Proofs.Ythndjpklfgcpmaa
