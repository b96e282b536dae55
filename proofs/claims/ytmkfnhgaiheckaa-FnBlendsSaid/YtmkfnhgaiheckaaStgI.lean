/- Chapter 27: StrongestFor, the program. -/
import Derived.Test.YtmkfnhgaiheckaaStgS
import Derived.BigQuiet
import Derived.Deep.QuietTactic
namespace Go.Proofs.Ytmkfnhgaiheckaa
open Go.ChangeShapes Go.WideShapes Go.ChangeAt Go.RowKit
set_option linter.unusedVariables false
set_option linter.unusedSimpArgs false
set_option maxHeartbeats 2000000

theorem cmp_neg (p q : Int) : cmpV (-p) (-q) = cmpV q p := by
  unfold cmpV
  by_cases h : q < p
  · simp only [h, show -p < -q by omega, if_true]
  · by_cases k : p < q
    · simp only [h, k, show ¬ (-p < -q) by omega, show -q < -p by omega, if_true, if_false]
    · simp only [h, k, show ¬ (-p < -q) by omega, show ¬ (-q < -p) by omega, if_false]
theorem istg1 (A : Option Addr) (n c gb : Nat) (xs : List FlourR) (hn : n ≤ 1000) (x y : Int) (w : World) (h1 : 0 ≤ x) (h2 : x < n) (h3 : 0 ≤ y) (h4 : y < n) (hb : w.cell? ⟨gb, 0, none⟩ = some (.slice A n c)) (hx : ReadsFlour w A n xs) :
    Calls Try.prog 124 #[.int .i64 x, .int .i64 y, .pointer (some ⟨gb, 0, none⟩)] w (Val (.int .i64 (apV xs x y)) w) := by
  obtain ⟨i, rfl⟩ : ∃ i : Nat, x = i := ⟨x.toNat, by omega⟩
  obtain ⟨k, rfl⟩ : ∃ k : Nat, y = k := ⟨y.toNat, by omega⟩
  have hi : i < n := by omega
  have hk : k < n := by omega
  have HV : Hid (apV xs (i : Nat) (k : Nat) = cmpV (sI xs k) (sI xs i)) := Lib.hid (by rw [apV, Int.toNat_natCast, Int.toNat_natCast, hiI, hiI, cmp_neg])
  obtain ⟨a, rfl, ha, _, _⟩ := hx.2 i hi
  obtain ⟨b, hab, hc, _, _⟩ := hx.2 k hk
  injection hab with hab
  subst hab
  have e1 : (xs.getD i z27).f0 = sI xs i := rfl
  have e2 : (xs.getD k z27).f0 = sI xs k := rfl
  rw [e1] at ha
  rw [e2] at hc
  generalize sI xs i = p at *
  generalize sI xs k = q at *
  have HC := Lib.hid (fun W => iCmp q p W)
  clear h1 h2 h3 h4 hx e1 e2
  go_enter Try.func124, Try.ntmps124
  go_wp2
  go_quiet ((go_at_call 125; exact (HC.out _).mono (by rintro e w2 ⟨rfl, rfl⟩; exact ⟨rfl, _, rfl⟩)))
  go_wp2
  go_ret
  exact Val.mk' (v_int HV.out.symm) (by (repeat (first | exact In.refl _ | assumption | apply In.alloc | apply In.drewN | apply In.drew | (refine In.step ?_ (by assumption)))))
set_option maxHeartbeats 8000000 in
set_option maxRecDepth 20000 in
theorem iStrongestFor (A : Option Addr) (n c : Nat) (xs : List FlourR) (tot : Int) (w : World) (hn : n ≤ maxLen) (hx : ReadsFlour w A n xs) : Calls Try.prog 40 #[.slice A n c, .int .i64 tot] w (Val (.int .i64 (stgV n xs tot)) w) := by
  obtain ⟨i0, hi0, hz0, hz1, hz2⟩ := info_parts infoI
  have HV : Hid (stgV n xs tot = if floursB n xs && inB tot 1 500 then (if 0 < gT xs n tot n then -1 else strengthV n xs n ((List.range n).map (gK xs n tot n))) else -1) := Lib.hid rfl
  have HNN := Lib.hid hn
  obtain ⟨wa, hwa⟩ : ∃ wa, wa = w.alloc (.cells #[.slice A n c] 37) := ⟨_, rfl⟩
  have k0 : Blk wa w.heap.size 37 #[.slice A n c] := by rw [hwa]; exact Blk.new w _ _
  have hi0' : In w.heap.size w wa := by rw [hwa]; (repeat (first | exact In.refl _ | assumption | apply In.alloc | apply In.drewN | apply In.drew | (refine In.step ?_ (by assumption))))
  have HXX := Lib.hid hx
  have HFO := Lib.hid (fun W (h : In w.heap.size w W) => iFloursOk A n c xs W hn (hx.in_ h))
  clear hx
  go_enter Try.func40, Try.ntmps40
  go_wp2_with fail
  rw [← hwa]
  clear hwa
  refine (HFO.out _ hi0').mono ?_
  rintro _ w1 ⟨rfl, hb1⟩
  have hI1 := hi0'.step hb1
  have k1 := k0.step hb1
  clear hb1 k0 hi0'
  cases h1 : floursB n xs
  · have HF : Hid (stgV n xs tot = -1) := Lib.hid (by rw [HV.out, h1]; rfl)
    go_wp2
    go_ret
    exact Val.mk' (v_int HF.out.symm) (by (repeat (first | exact In.refl _ | assumption | apply In.alloc | apply In.drewN | apply In.drew | (refine In.step ?_ (by assumption)))))
  go_wp2_with fail
  refine (iIn tot 1 500 _).mono ?_
  rintro _ _ ⟨rfl, rfl⟩
  cases h2 : inB tot 1 500
  · have HF : Hid (stgV n xs tot = -1) := Lib.hid (by rw [HV.out, h1, h2]; rfl)
    go_wp2
    go_ret
    exact Val.mk' (v_int HF.out.symm) (by (repeat (first | exact In.refl _ | assumption | apply In.alloc | apply In.drewN | apply In.drew | (refine In.step ?_ (by assumption)))))
  have htot := inB_tt h2
  obtain ⟨hn1, hn5, hfl⟩ := flours_at h1
  have HFL : Hid (∀ i, i < n → 50 ≤ sI xs i ∧ sI xs i ≤ 500 ∧ 0 ≤ kI xs i ∧ kI xs i ≤ 100) := Lib.hid fun i hi => by
    have := fl_in (hfl i hi)
    unfold sI kI; omega
  have HKK : Hid (∀ i, i < n → 0 ≤ kI xs i) := Lib.hid fun i hi => (HFL.out i hi).2.2.1
  have HG0 := Lib.hid (gT_nn (tot := tot) HKK.out (by omega))
  have HG1 : Hid (∀ j, j ≤ n → gT xs n tot j ≤ tot) := Lib.hid fun j hj => by have := gT_le (tot := tot) HKK.out (by omega) j 0 (by omega); simpa [gT] using this
  have HE : Hid (stgV n xs tot = if 0 < gT xs n tot n then -1 else strengthV n xs n ((List.range n).map (gK xs n tot n))) := Lib.hid (by rw [HV.out, h1, h2]; rfl)
  have hc1 := k1.cell 0
  simp at hc1
  have HIX := Lib.hid (iIndices 124 (.pointer (some ⟨w.heap.size, 0, none⟩)) (apV xs) n w1 (by omega) (fun _ _ => by kernel_rfl) (fun x y w' p1 p2 p3 p4 p5 => istg1 A n c w.heap.size xs (by omega) x y w' p1 p2 p3 p4 (by have h := (k1.step p5.below).cell 0; simpa using h) (HXX.out.in_ (hI1.trans p5))))
  clear h1 h2 HV hfl hn
  go_wp2_with fail
  refine HIX.out.mono ?_
  rintro _ w3 ⟨go, rfl, ho, hgo, hb3⟩
  have hI3 := hI1.step hb3
  have k3 := k1.step hb3
  have hc3 := k3.cell 0
  simp at hc3
  rw [srtL_len] at ho ⊢
  have hor := ho.reads
  have hgo1 := ho.lt
  clear k1 hI1 hb3 HIX ho hc1
  go_wp2_with (at_make; refine wpList_make_full _ rfl (.tmp 22) (.tmp 22) 43 rfl w3.heap.size 3 i0 (.int .i64 0) 1 Try.underlying43 hi0 hz0 hz1 .i64 .i64 (n : Int) (n : Int) n rfl rfl rfl rfl ?h2 ?h3 ?h4 ?_)
  case h2 => rw [hz2]; omega
  case h3 => unfold maxLen; omega
  case h4 => exact Nat.le_refl _
  intro w2 hown0 hgrow0
  have hb0 : Below w3.heap.size w3 w2 := (Below.refl _ _).grown hgrow0 (Nat.le_refl _) (fun j hj => by cases hj)
  have hN2 : Nums w2 w3.heap.size n (fun _ => 0) := nums_made (by rw [toList_madeCells_one] at hown0; exact hown0)
  have hI2 := hI3.step hb0
  have k2 := k3.step hb0
  have hor2 := hor.below hb0 (Nat.le_refl _)
  have hgw : w.heap.size ≤ w3.heap.size := hI3.size
  have kl := k3.lt
  have hgn : go ≠ w3.heap.size := by omega
  have hpn : w.heap.size ≠ w3.heap.size := by omega
  clear hgrow0 hown0 hb0 hI3 k3 hor hgo hgo1 hc3 kl
  generalize w3.heap.size = g at *
  have hc2 := k2.cell 0
  simp at hc2
  go_wp2
  clear hc2
  go_loopw [1, 26] (fun e i wr => ∃ j : Nat, j ≤ n ∧ i = .int .i64 j ∧ e = .int .i64 (gT xs n tot j) ∧ Nums wr g n (gK xs n tot j) ∧ In w.heap.size w wr ∧ ReadsI wr (some ⟨go, 0, none⟩) n (srtL (ltOf (apV xs)) n) ∧ Blk wr w.heap.size 37 #[.slice A n c]) (fun _ i _ => n - (intOf i).toNat)
  case atStart => exact ⟨0, Nat.zero_le _, rfl, rfl, hN2, hI2, hor2, k2⟩
  case round =>
    clear hN2 hI2 hor2 k2
    obtain ⟨j, hj, rfl, rfl, hN, hi, hor, kb⟩ := hrel
    have hcb := kb.cell 0
    simp at hcb
    have hg0 := HG0.out j hj
    have hg1 := HG1.out j hj
    by_cases hlt : j < n
    · have HT1 : Hid (gT xs n tot (j + 1) = gT xs n tot j - min (gT xs n tot j) (kI xs (apN xs n j))) := Lib.hid rfl
      have HK1 : Hid (gK xs n tot (j + 1) = updI (gK xs n tot j) (apN xs n j) (min (gT xs n tot j) (kI xs (apN xs n j)))) := Lib.hid rfl
      obtain ⟨ao, hao, ha⟩ := hor.2 j hlt
      injection hao with hao
      subst hao
      have hxj : (srtL (ltOf (apV xs)) n).getD j 0 = (apN xs n j : Int) := by
        rw [srtL]
        simp only [List.getD_eq_getElem?_getD, List.getElem?_map, List.getElem?_range hlt, Option.map_some, Option.getD_some]
        exact apN_eq hlt
      rw [hxj] at ha
      have hXn : apN xs n j < n := apN_in hlt
      generalize apN xs n j = X at *
      generalize gT xs n tot j = T at *
      generalize gK xs n tot j = K at *
      obtain ⟨a, rfl, _, _, ca2⟩ := (HXX.out.in_ hi).2 X hXn
      have e2 : (xs.getD X z27).f2 = kI xs X := rfl
      rw [e2] at ca2
      have hf := HFL.out X hXn
      generalize kI xs X = kx at *
      have cX := hN.cell X hXn
      have zX := hN.free X
      have HNs := Lib.hid (fun q : Int => hN.set_ X q)
      have HIs := Lib.hid (fun q : Int => (hi.set_ (p := ⟨g, X, none⟩) hgw (.int .i64 q) : In w.heap.size w (wr.setCell ⟨g, X, none⟩ (.int .i64 q))))
      have HOs := Lib.hid (fun q : Int => hor.setc (i := X) (v := .int .i64 q) (g := g) (fun a ha => by injection ha with ha; subst ha; exact hgn))
      have HBs := Lib.hid (fun q : Int => kb.far (p := ⟨g, X, none⟩) hpn (.int .i64 q))
      rw [Addr.add_lit, Nat.zero_add] at ha
      clear hN hor kb hxj e2
      by_cases hm : kx < T
      · have HM : Hid (min T kx = kx) := Lib.hid (by omega)
        rw [HM.out] at HT1 HK1
        go_wp2
        go_roundw
        case rel => exact ⟨j + 1, by omega, by go_num, v_int HT1.out.symm, by rw [HK1.out]; exact HNs.out kx, HIs.out kx, HOs.out kx, HBs.out kx⟩
        case measure => simp [intOf]; omega
      · have HM : Hid (min T kx = T) := Lib.hid (by omega)
        rw [HM.out] at HT1 HK1
        go_wp2
        go_roundw
        case rel => exact ⟨j + 1, by omega, by go_num, v_int (by rw [HT1.out]; omega), by rw [HK1.out]; exact HNs.out T, HIs.out T, HOs.out T, HBs.out T⟩
        case measure => simp [intOf]; omega
    · obtain rfl : j = n := by omega
      by_cases hT : 0 < gT xs j tot j
      · have HF : Hid (stgV j xs tot = -1) := Lib.hid (HE.out.trans (if_pos hT))
        go_wp2
        go_ret
        exact Val.mk' (v_int HF.out.symm) (by (repeat (first | exact In.refl _ | assumption | apply In.alloc | apply In.drewN | apply In.drew | (refine In.step ?_ (by assumption)))))
      · have HF : Hid (stgV j xs tot = strengthV j xs j ((List.range j).map (gK xs j tot j))) := Lib.hid (HE.out.trans (if_neg hT))
        have HR := Lib.hid hN.reads
        have HXW := Lib.hid (HXX.out.in_ hi)
        clear hN HE hor
        go_wp2_with fail
        refine (iStrengthOf A j c xs _ j _ _ _ HNN.out HXW.out HNN.out HR.out).mono ?_
        rintro _ w5 ⟨rfl, hb5⟩
        go_wp2
        go_ret
        exact Val.mk' (v_int HF.out.symm) (by (repeat (first | exact In.refl _ | assumption | apply In.alloc | apply In.drewN | apply In.drew | (refine In.step ?_ (by assumption)))))
end Go.Proofs.Ytmkfnhgaiheckaa
