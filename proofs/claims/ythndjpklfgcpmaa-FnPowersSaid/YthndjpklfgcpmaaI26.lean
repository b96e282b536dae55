/- Chapter 26: BestStart, the program. -/
import Derived.Test.YthndjpklfgcpmaaG26
namespace Go.Proofs.Ythndjpklfgcpmaa
open Go.ChangeShapes Go.WideShapes Go.ChangeAt Go.RowKit
set_option linter.unusedVariables false
set_option linter.unusedSimpArgs false
set_option maxHeartbeats 2000000

set_option maxRecDepth 20000 in
theorem iBestStart (A : Option Addr) (n c : Nat) (xs : List MachineR) (m W : Int) (w : World) (hn : n ≤ maxLen) (hx : ReadsMachine w A n xs) : Calls Try.prog 43 #[.slice A n c, .int .i64 m, .int .i64 W] w (Val (i64 (startV n xs m W)) w) := by
  cases hB : machB n xs
  · have HV : Hid (startV n xs m W = -1) := Lib.hid (start_no (by simp [startB, hB]))
    go_enter Try.func43, Try.ntmps43
    go_wp2_with (go_at_call 47; (with_reducible refine (iMachinesOk A n c xs _ hn hx).mono ?_); rintro _ w1 ⟨rfl, hb1⟩; rw [hB])
    go_ret
    exact Val.mk' (v_int HV.out.symm) (by (repeat (first | exact In.refl _ | assumption | apply In.alloc | apply In.drewN | apply In.drew | (refine In.step ?_ (by assumption)))))
  have hnm : n ≤ 1000 := by have := (mach_at hB).1; omega
  by_cases h12 : n = 12
  · have HV : Hid (startV n xs m W = -1) := Lib.hid (start_no (by simp [startB, h12]))
    have he : ((n : Int) == 12) = true := by simp; omega
    clear h12
    go_enter Try.func43, Try.ntmps43
    go_wp2_with (go_at_call 47; (with_reducible refine (iMachinesOk A n c xs _ hn hx).mono ?_); rintro _ w1 ⟨rfl, hb1⟩; rw [hB])
    go_ret
    exact Val.mk' (v_int HV.out.symm) (by (repeat (first | exact In.refl _ | assumption | apply In.alloc | apply In.drewN | apply In.drew | (refine In.step ?_ (by assumption)))))
  have he : ((n : Int) == 12) = false := by simp; omega
  cases h1 : inB m 1 1440
  · have HV : Hid (startV n xs m W = -1) := Lib.hid (start_no (by simp [startB, h1]))
    clear h12
    go_enter Try.func43, Try.ntmps43
    go_wp2_with (first | (go_at_call 47; (with_reducible refine (iMachinesOk A n c xs _ hn hx).mono ?_); rintro _ w1 ⟨rfl, hb1⟩; rw [hB]) | (go_at_call 50; (with_reducible refine (iInE h1 _).mono ?_); rintro e w' ⟨rfl, rfl⟩) | (go_at_call 71; (with_reducible refine (i26w W _).mono ?_); rintro e w' ⟨rfl, rfl⟩; rw [h2]))
    go_ret
    exact Val.mk' (v_int HV.out.symm) (by (repeat (first | exact In.refl _ | assumption | apply In.alloc | apply In.drewN | apply In.drew | (refine In.step ?_ (by assumption)))))
  cases h2 : inB W 1 10000
  · have HV : Hid (startV n xs m W = -1) := Lib.hid (start_no (by simp [startB, h2]))
    clear h12
    go_enter Try.func43, Try.ntmps43
    go_wp2_with (first | (go_at_call 47; (with_reducible refine (iMachinesOk A n c xs _ hn hx).mono ?_); rintro _ w1 ⟨rfl, hb1⟩; rw [hB]) | (go_at_call 50; (with_reducible refine (iInE h1 _).mono ?_); rintro e w' ⟨rfl, rfl⟩) | (go_at_call 71; (with_reducible refine (i26w W _).mono ?_); rintro e w' ⟨rfl, rfl⟩; rw [h2]))
    go_ret
    exact Val.mk' (v_int HV.out.symm) (by (repeat (first | exact In.refl _ | assumption | apply In.alloc | apply In.drewN | apply In.drew | (refine In.step ?_ (by assumption)))))
  have hV0 : startV n xs m W = (amin (stF xs n m.toNat W) (1440 - m.toNat + 1) : Nat) := by
    unfold startV
    rw [if_pos (by simp [startB, hB, h1, h2, h12])]
  obtain ⟨m1, m2⟩ := inB_tt h1
  obtain ⟨W1, W2⟩ := inB_tt h2
  obtain ⟨M, rfl⟩ : ∃ M : Nat, m = (M : Int) := ⟨m.toNat, by omega⟩
  rw [Int.toNat_natCast] at hV0
  obtain ⟨L, hL⟩ : ∃ L : Nat, 1440 - M = L := ⟨_, rfl⟩
  have hLM : (L : Int) + M = 1440 := by omega
  rw [hL] at hV0
  have HV := Lib.hid hV0
  have HLM := Lib.hid hLM
  clear hV0 hL hLM
  obtain ⟨h13, hs⟩ := mach_at hB
  have HS := Lib.hid hs
  have HPW := Lib.hid (pw_all hB)
  have HF : Hid (∀ f, stF xs n M W f = max (pwF xs n (amax (pwF xs n) 1440)) (wmx (pwF xs n) f M + W)) := Lib.hid fun f => rfl
  have HWN := Lib.hid (wmx_nn (pwF xs n))
  have HWU : Hid (∀ a j, wmx (pwF xs n) a j ≤ 120000) := Lib.hid fun a j => wmx_lub _ _ _ _ (by omega) fun i _ => (pw_all hB (a + i)).2
  have HWS := Lib.hid (wmx_succ (pwF xs n))
  have HPK : Hid (wmx (pwF xs n) 0 1440 = pwF xs n (amax (pwF xs n) 1440)) := Lib.hid (wmx_peak _ _ (by omega) fun i _ => (pw_all hB i).1)
  have hpk := pw_all hB (amax (pwF xs n) 1440)
  clear hs h12
  obtain ⟨i0, hi0, hz0, hz1, hz2⟩ := info_parts infoN
  go_enter Try.func43, Try.ntmps43
  go_wp2_with (first | (go_at_call 47; (with_reducible refine (iMachinesOk A n c xs _ hn hx).mono ?_); rintro _ w1 ⟨rfl, hb1⟩; rw [hB]) | (go_at_call 50; (with_reducible refine (iInE h1 _).mono ?_); rintro e w' ⟨rfl, rfl⟩) | (go_at_call 71; (with_reducible refine (i26w W _).mono ?_); rintro e w' ⟨rfl, rfl⟩; rw [h2]))
  have i1 : In w.heap.size w w1 := In.step (by (repeat (first | exact In.refl _ | assumption | apply In.alloc | apply In.drewN | apply In.drew | (refine In.step ?_ (by assumption))))) hb1
  refine (ipowersOf A n c xs _ h13 HS.out (hx.in_ (by (repeat (first | exact In.refl _ | assumption | apply In.alloc | apply In.drewN | apply In.drew | (refine In.step ?_ (by assumption))))))).mono ?_
  rintro _ w2 ⟨A2, c2, rfl, hown, hb2⟩
  have hr := reads_own_i hown
  have i2 : In w.heap.size w w2 := In.step (by (repeat (first | exact In.refl _ | assumption | apply In.alloc | apply In.drewN | apply In.drew | (refine In.step ?_ (by assumption))))) hb2
  have hlen := fL_len (pwF xs n) 1440
  rw [hlen] at hr hown ⊢
  have hcap := own_cap9 hown
  obtain ⟨ad, rfl, _⟩ := hr.2 0 (by omega)
  have HAT := Lib.hid (fL_at (pwF xs n) 1440)
  have HWL := Lib.hid (lmx_wmx (pwF xs n))
  have HNN := Lib.hid (fun u => (HPW.out u).1)
  clear hlen hown hb1 hb2 i1 he h1 h2 hB
  obtain ⟨P, hP⟩ : ∃ P : Nat, L + 1 = P := ⟨_, rfl⟩
  have HP := Lib.hid hP
  have hLC : (1440 : Int) - M + 1 = (P : Int) := by have := HLM.out; omega
  have HLC := Lib.hid hLC
  rw [hP] at HV
  clear hP hLC
  have hMP : 0 ≤ (1440 : Int) - M ∧ (1440 : Int) - M ≤ 1440 := by omega
  have hP2 : 1 ≤ P ∧ P ≤ 1440 := by have := HLC.out; omega
  generalize pwF xs n = f at *
  generalize stF xs n M W = F at *
  generalize hzs : fL f 1440 = zs at *
  clear hzs
  obtain ⟨pk, hpk9⟩ : ∃ pk, f (amax f 1440) = pk := ⟨_, rfl⟩
  rw [hpk9] at HF HPK hpk
  clear hpk9
  obtain ⟨N, hN⟩ : ∃ N : Nat, 1440 = N := ⟨_, rfl⟩
  have HN := Lib.hid hN
  rw [hN] at HAT hr hcap HPK ⊢
  clear hN
  have HMX : Hid (lmx (gI zs) (N - 1) = pk) := Lib.hid (by
    have h0 := HN.out
    rw [HWL.out (gI zs) 0 (N - 1) (fun i hi => by rw [Nat.zero_add]; exact HAT.out i (by omega)) (fun i _ => HNN.out _), show N - 1 + 1 = N by omega, HPK.out])
  have HCAP := Lib.hid hcap
  have HHP := Lib.hid hP2
  clear hcap hP2
  go_wp2_with (at_make; refine wpList_make_full _ rfl (.tmp 33) (.tmp 33) 22 rfl w2.heap.size 3 i0 (.int .i64 0) 1 Try.underlying22 hi0 hz0 hz1 .i64 .i64 ((1440 : Int) - M + 1) ((1440 : Int) - M + 1) P rfl rfl HLC.out HLC.out ?h2 ?h3 ?h4 ?_)
  case h2 => rw [hz2]; have := HHP.out; omega
  case h3 => have := HHP.out; unfold maxLen; omega
  case h4 => exact Nat.le_refl _
  intro w3 hown0 hgrow0
  have hb0 : Below w2.heap.size w2 w3 := (Below.refl _ _).grown hgrow0 (Nat.le_refl _) (fun j hj => by cases hj)
  have hwa : Ways w3 w2.heap.size P (fun u => if u < 0 then F u else 0) := (ways_made (by rw [toList_madeCells_one] at hown0; exact hown0)).congr (fun u hu => by rw [if_neg (by omega)])
  have i3 : In w.heap.size w w3 := i2.step hb0
  have j3 : In w2.heap.size w2 w3 := ⟨hb0, hb0.size⟩
  have HG0 : Hid (w.heap.size ≤ w2.heap.size) := Lib.hid i2.size
  clear hown0 hgrow0 hb0 i2
  obtain ⟨g, hg⟩ : ∃ g, g = w2.heap.size := ⟨_, rfl⟩
  have HGG := Lib.hid hg
  rw [← hg] at hwa ⊢
  clear hg
  have hP9 : (P : Int) ≤ 1440 := by have := HHP.out; omega
  go_wp2
  go_loopw [37] (fun i wr => ∃ k : Nat, k ≤ P ∧ i = .int .i64 k ∧ Ways wr g P (fun u => if u < k then F u else 0) ∧ In w.heap.size w wr ∧ In w2.heap.size w2 wr) (fun i _ => P - (intOf i).toNat)
  case atStart => exact ⟨0, Nat.zero_le _, rfl, hwa, i3, j3⟩
  case round =>
    clear hwa i3 j3
    obtain ⟨k, hk, rfl, hwa, hi, hj⟩ := hrel
    have HW := Lib.hid hwa
    clear hwa
    by_cases hlt : k < P
    · have hkM : k + M ≤ N := by have := HLM.out; have := HP.out; have := HN.out; omega
      have hkM9 : (k : Int) + M ≤ 1440 := by have := HN.out; omega
      have hsl : ∀ W9, (Instr.slice 22 (.slice (some ad) N c2) (some (.int .i64 (k : Int))) (some (.int .i64 ((k : Int) + M))) none).run Try.prog W9 = .ok (.slice (some (ad.add k)) M (c2 - k)) W9 := fun W9 => by
        have h := sl2 (some ad) N c2 k (k + M) (by omega) (by have := HCAP.out; omega) W9
        rw [show (((k + M : Nat)) : Int) = (k : Int) + M by omega] at h
        rw [h, loA, if_neg (by have := HCAP.out; omega), show k + M - k = M by omega]
        rfl
      have hseg := fun W9 (h9 : In w2.heap.size w2 W9) => reads_seg (hr.below h9.below (Nat.le_refl _)) k M hkM
      have HSEG := Lib.hid hseg
      have HYV : Hid (lmx (gI ((zs.drop k).take M)) (M - 1) = wmx f k M) := Lib.hid (by
        rw [HWL.out (gI ((zs.drop k).take M)) k (M - 1) (fun i hi => by
          have := HAT.out (k + i) (by omega)
          rw [← this]
          unfold gI
          simp [List.getD_eq_getElem?_getD, List.getElem?_take, List.getElem?_drop, show i < M by omega]) (fun i _ => HNN.out _), show M - 1 + 1 = M by omega])
      have hup := HWU.out k M
      have hnn := HWN.out k M
      have hfk := HF.out k
      obtain ⟨y, hy9⟩ : ∃ y, wmx f k M = y := ⟨_, rfl⟩
      rw [hy9] at HYV hup hnn hfk
      have hM1 : 0 < M := by omega
      have hck := HW.out.cell k hlt
      have hfr := HW.out.free k
      rw [if_neg (Nat.lt_irrefl k)] at hck
      obtain ⟨x, hx9⟩ : ∃ x, F k = x := ⟨_, rfl⟩
      rw [hx9] at hfk
      have HX9 := Lib.hid hx9
      clear hseg hy9 hx9
      have HHK := Lib.hid hkM
      clear hkM hk
      have hxv : y + W < pk ∧ x = pk ∨ ¬ y + W < pk ∧ x = y + W := by omega
      clear hfk
      go_wp2_with fail
      refine (iMax _ M _ _ _ (by unfold maxLen; omega) hM1 (HSEG.out _ hj)).mono ?_
      rintro _ _ ⟨rfl, rfl⟩
      rw [HYV.out]
      clear hsl
      go_wp2_with fail
      refine (iMax (some ad) N c2 zs _ (by have := HN.out; unfold maxLen; omega) (by have := HN.out; omega) (hr.below hj.below (Nat.le_refl _))).mono ?_
      rintro _ _ ⟨rfl, rfl⟩
      rw [HMX.out]
      rcases hxv with ⟨hmx, rfl⟩ | ⟨hmx, rfl⟩
      all_goals
        go_wp2
        go_roundw
        case rel => exact ⟨k + 1, by omega, by go_num, HW.out.set_ k _ _ (by show (if k < k + 1 then F k else 0) = _; rw [if_pos (by omega), HX9.out]) (fun u hu => by
          show (if u < k + 1 then F u else 0) = (if u < k then F u else 0)
          by_cases e : u < k
          · rw [if_pos (by omega), if_pos e]
          · rw [if_neg (by omega), if_neg e]) hlt, hi.set_ (p := ⟨g, k, none⟩) (by have := HGG.out; have := HG0.out; show w.heap.size ≤ g; omega) _, hj.set_ (p := ⟨g, k, none⟩) (by have := HGG.out; show w2.heap.size ≤ g; omega) _⟩
        case measure => simp [intOf]; omega
    · obtain rfl : k = P := by omega
      have hrp : ReadsI wr (some ⟨g, 0, none⟩) k (fL F k) := (HW.out.congr (f' := F) (fun u hu => by rw [if_pos hu])).reads
      have HRP := Lib.hid hrp
      have HIX : Hid (idxOf (fL F k) (lmn (gI (fL F k)) (k - 1)) k = (amin F k : Nat)) := Lib.hid (by
        have h := idx_amin F (k - 1)
        have := HHP.out
        rw [show k - 1 + 1 = k by omega] at h
        exact h)
      clear hrp hr
      go_wp2_with fail
      refine (iMin _ k _ _ _ (by have := HHP.out; unfold maxLen; omega) (by have := HHP.out; omega) HRP.out).mono ?_
      rintro _ _ ⟨rfl, rfl⟩
      go_wp2_with fail
      refine (iIndex _ k _ _ _ _ (by have := HHP.out; unfold maxLen; omega) HRP.out).mono ?_
      rintro _ _ ⟨rfl, rfl⟩
      rw [HIX.out]
      go_wp2
      go_ret
      exact Val.mk' (v_int HV.out.symm) (by (repeat (first | exact In.refl _ | assumption | apply In.alloc | apply In.drewN | apply In.drew | (refine In.step ?_ (by assumption)))))
end Go.Proofs.Ythndjpklfgcpmaa
