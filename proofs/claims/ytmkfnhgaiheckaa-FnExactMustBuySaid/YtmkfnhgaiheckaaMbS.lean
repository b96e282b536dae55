/- Chapter 36: MustBuy, the model. -/
import Derived.Test.YtmkfnhgaiheckaaMbP
import Derived.StillTailTactics
import Derived.Deep.QuietTactic
import Derived.BigQuiet
namespace Go.Proofs.Ytmkfnhgaiheckaa
open Go.ChangeShapes Go.WideShapes Go.ChangeAt Go.RowKit
set_option linter.unusedVariables false
set_option linter.unusedSimpArgs false
set_option maxHeartbeats 2000000

set_option maxHeartbeats 16000000 in
set_option maxRecDepth 20000 in
theorem sMustBuy (ad : Addr) (n cap : Nat) (xs : List Int) (A1 : Option Addr) (m c1 : Nat) (ds : List DoughR) (A2 : Option Addr) (l c2 : Nat) (fs : List Int) (w : World) (hn : n ≤ 10000000) (hx : ReadsI w (some ad) n xs) (hm : m ≤ maxLen) (hd : ReadsDough w A1 m ds) (hl : l ≤ maxLen) (hf : ReadsI w A2 l fs) :
    Calls Try.prog 68 #[.agg #[.slice (some ad) n cap], .slice A1 m c1, .slice A2 l c2] w (RowB (MustL n xs m ds l fs) w) := by
  obtain ⟨i0, hi0, hz0, hz1, hz2⟩ := info_parts infoN
  have HX := Lib.hid hx
  have hlen := hx.1
  clear hx
  unfold maxLen at hm hl
  obtain ⟨bA, hbA⟩ : ∃ b, b = w.heap.size := ⟨_, rfl⟩
  have kA : Blk (w.alloc (.cells #[.slice (some ad) n cap] 90)) bA 90 #[.slice (some ad) n cap] := Blk.new' hbA
  have i0' : In w.heap.size w (w.alloc (.cells #[.slice (some ad) n cap] 90)) := by (repeat (first | exact In.refl _ | assumption | apply In.alloc | apply In.drewN | apply In.drew | (refine In.step ?_ (by assumption))))
  go_enter Try.func68, Try.ntmps68
  go_wp2_with fail
  rw [← hbA]
  clear hbA
  generalize (w.alloc (.cells #[.slice (some ad) n cap] 90)) = w0 at *
  have cA := kA.cell 0
  go_wp2_with fail
  refine (sStoreOk (some ad) n cap xs _ (by unfold maxLen; omega) (HX.out.below (In.below (by (repeat (first | exact In.refl _ | assumption | apply In.alloc | apply In.drewN | apply In.drew | (refine In.step ?_ (by assumption)))))) (Nat.le_refl _))).mono ?_
  rintro _ w1 ⟨rfl, hb1⟩
  have i1 : In w.heap.size w w1 := i0'.step hb1
  have k1 := kA.step hb1
  have cA1 := k1.cell 0
  clear kA i0' cA hb1
  cases hst : stB n xs
  · skip
    have HV : Hid (MustL n xs m ds l fs = []) := Lib.hid (MustL_f (by unfold mbB; rw [hst]; rfl))
    go_wp2
    go_ret
    rw [HV.out]; exact freshRow w i1
  by_cases hm11 : 10 < m
  · skip
    have HV : Hid (MustL n xs m ds l fs = []) := Lib.hid (MustL_f (by unfold mbB; rw [decide_eq_false (show ¬ m ≤ 10 by omega)]; simp))
    go_wp2
    go_ret
    rw [HV.out]; exact freshRow w i1
  have hm10 : m ≤ 10 := by omega
  clear hm11
  by_cases hlm : ¬ l = m
  · skip
    have HV : Hid (MustL n xs m ds l fs = []) := Lib.hid (MustL_f (by unfold mbB; rw [decide_eq_false hlm]; simp))
    have hlm2 : ¬ (l : Int) = (m : Int) := by omega
    have hlm3 : ((l : Int) == (m : Int)) = false := by simpa using hlm2
    have hlm5 : ((l : Int) != (m : Int)) = true := by simp; omega
    go_wp2
    go_ret
    rw [HV.out]; exact freshRow w i1
  have hlm2 : l = m := by omega
  clear hlm
  subst hlm2
  obtain ⟨hn4, hxs⟩ := st_at hst
  subst hn4
  have HXS := Lib.hid hxs
  have HST := Lib.hid hst
  have HI1 := Lib.hid i1
  clear hxs hst
  go_wp2_with (at_make; refine wpList_make_full _ rfl (.const (.int .i64 4)) (.const (.int .i64 4)) 43 rfl w1.heap.size 3 i0 (.int .i64 0) 1 Try.underlying43 hi0 hz0 hz1 .i64 .i64 (4 : Int) (4 : Int) 4 rfl rfl rfl rfl ?h2 ?h3 ?h4 ?_)
  case h2 => rw [hz2]; omega
  case h3 => unfold maxLen; omega
  case h4 => exact Nat.le_refl _
  intro w2 hown0 hgrow0
  have hb0 : Below w1.heap.size w1 w2 := (Below.refl _ _).grown hgrow0 (Nat.le_refl _) (fun j hj => by cases hj)
  have hwa : Ways w2 w1.heap.size 4 (fun t => mbSum ds fs t 0) := (ways_made (by rw [toList_madeCells_one] at hown0; exact hown0)).congr (fun u hu => rfl)
  have i2 : In w.heap.size w w2 := i1.step hb0
  have k2 := k1.step hb0
  clear hgrow0 hown0 hb0 cA1 i1
  obtain ⟨gn, hgn⟩ : ∃ g, g = w1.heap.size := ⟨_, rfl⟩
  have HGN : Hid (w.heap.size ≤ gn) := Lib.hid (by rw [hgn]; exact HI1.out.size)
  have HNE : Hid (bA ≠ gn) := Lib.hid (by have := k1.lt; omega)
  rw [← hgn] at hwa ⊢
  clear hgn k1
  go_wp2_with fail
  go_loopw [8] (fun i wr => ∃ k : Nat, k ≤ l ∧ i = .int .i64 k ∧ (∀ j, j < k → mbOk ds fs j = true) ∧ Ways wr gn 4 (fun t => mbSum ds fs t k) ∧ Blk wr bA 90 #[.slice (some ad) 4 cap] ∧ In w.heap.size w wr) (fun i _ => l - (intOf i).toNat)
  case atStart => exact ⟨0, Nat.zero_le _, rfl, fun j hj => absurd hj (Nat.not_lt_zero _), hwa, k2, i2⟩
  case round =>
    clear hwa k2 i2
    obtain ⟨k, hk, rfl, hok, hwa, kA, hi⟩ := hrel
    obtain ⟨w8, hw8⟩ : ∃ q, q = wr := ⟨_, rfl⟩
    subst hw8
    by_cases hlt : k < l
    · skip
      obtain ⟨a1, rfl, d0, d1, d2⟩ := (hd.in_ hi).2 k hlt
      obtain ⟨a2, ha2, hcf⟩ := (hf.below (In.below hi) (Nat.le_refl _)).2 k hlt
      subst ha2
      have HK : Hid (mbOk ds fs k = decide (dOk (ds.getD k z36).f0 (ds.getD k z36).f1 (ds.getD k z36).f2 = true ∧ 0 ≤ fs.getD k 0 ∧ fs.getD k 0 ≤ 1000000)) := Lib.hid rfl
      have HA : Hid (mbAm ds fs k = amV (ds.getD k z36).f0 (ds.getD k z36).f1 (ds.getD k z36).f2 (fs.getD k 0)) := Lib.hid rfl
      have HOK := Lib.hid hok
      have HTV : Hid (mbOk ds fs k = true → ∀ j, j < k + 1 → mbOk ds fs j = true) := Lib.hid (fun h j hj => by
        by_cases e : j = k
        · subst e; exact h
        · exact HOK.out j (by omega))
      have HFV : Hid (mbOk ds fs k = false → MustL 4 xs l ds l fs = []) := Lib.hid (fun h => MustL_f (by unfold mbB; rw [allOk_f _ _ k hlt h]; simp))
      have HHD := Lib.hid hd
      have HHF := Lib.hid hf
      clear hok
      change w8.cell? _ = some (.int .i64 (ds.getD k z36).f0) at d0
      change w8.cell? _ = some (.int .i64 (ds.getD k z36).f1) at d1
      change w8.cell? _ = some (.int .i64 (ds.getD k z36).f2) at d2
      generalize ds.getD k z36 = x at d0 d1 d2 HK HA
      generalize fs.getD k 0 = f at hcf HK HA
      obtain ⟨x0, x1, x2⟩ := x
      simp only at d0 d1 d2 HK HA
      clear hd hf
      have HW := Lib.hid hwa
      have HKA := Lib.hid kA
      clear hwa kA
      go_wp2_with fail
      go_still_tail 8, (by kernel_rfl)
      change wpList _ _ _ _ _ w8.drew
      have i4 : In w.heap.size w w8.drew := hi.drew
      generalize hw5 : w8.drew = w5 at i4 ⊢
      have HB5 : Hid (Below w8.heap.size w8 w5) := Lib.hid (hw5 ▸ (Below.refl _ w8).drew)
      clear hi hcf d0 d1 d2 hw5
      by_cases hv : dOk x0 x1 x2 = true ∧ 0 ≤ f ∧ f ≤ 1000000
      · skip
        have HV : Hid (mbOk ds fs k = true) := Lib.hid (by rw [HK.out]; exact decide_eq_true hv)
        have HKB := Lib.hid (fun i => mbAm_in HV.out i)
        obtain ⟨hv1, hv2, hv3⟩ := hv
        go_wp2_with fail
        refine (sAm x0 x1 x2 f hv1 hv2 hv3 _).mono ?_
        rintro _ w6 ⟨ga, rfl, ho6, hg6, hb6⟩
        clear hv1 hv2 hv3
        have hb7 := HB5.out.trans (hb6.mono HB5.out.size)
        have hg7 : w8.heap.size ≤ ga := by have := HB5.out.size; omega
        have i6 := i4.step hb6
        rw [← HA.out] at ho6
        have hw6 := HW.out.below hb7
        have k6 := HKA.out.step hb7
        have HNA : Hid (ga ≠ gn) := Lib.hid (by obtain ⟨_, hk9, _⟩ := HW.out; have := hk9.lt; omega)
        clear i4 hb6 hg6 hb7 hg7
        go_wp2_with fail
        go_loopw [10] (fun i wr => ∃ j : Nat, j ≤ 4 ∧ i = .int .i64 j ∧ Ways wr gn 4 (fun t => if t < j then mbSum ds fs t (k + 1) else mbSum ds fs t k) ∧ OwnC wr ga 4 4 (mbAm ds fs k) ∧ Blk wr bA 90 #[.slice (some ad) 4 cap] ∧ In w.heap.size w wr) (fun i _ => 4 - (intOf i).toNat)
        case atStart => exact ⟨0, Nat.zero_le _, rfl, hw6.congr (fun u hu => by simp), ho6, k6, i6⟩
        case round =>
          clear hw6 ho6 k6 i6
          obtain ⟨j, hj, rfl, hwa, ho, kA, hi⟩ := hrel
          by_cases hj4 : j < 4
          · skip
            have cy := ho.cellI hj4
            have cz := hwa.cell j hj4
            rw [if_neg (Nat.lt_irrefl j)] at cz
            have fz := hwa.free j
            have b1 := mbSum_in (ds := ds) (fs := fs) j k (by omega) HOK.out
            have b2 := HKB.out j
            have HE : Hid (mbSum ds fs j (k + 1) = mbSum ds fs j k + (mbAm ds fs k).getD j 0) := Lib.hid rfl
            have HS := Lib.hid (fun v (hv : v = mbSum ds fs j (k + 1)) => hwa.set_ j v (fun t => if t < j + 1 then mbSum ds fs t (k + 1) else mbSum ds fs t k) (by rw [if_pos (by omega)]; exact hv.symm) (fun u hu => by
              by_cases e : u < j
              · rw [if_pos e, if_pos (by omega)]
              · rw [if_neg e, if_neg (by omega)]) hj4)
            have HO := Lib.hid ho
            have HI := Lib.hid hi
            have HA9 := Lib.hid kA
            clear hwa ho hi kA
            generalize mbSum ds fs j k = y at cz b1 HE
            generalize (mbAm ds fs k).getD j 0 = z at cy b2 HE
            have hw : IntKind.i64.wrap (y + z) = y + z := IntWalk.i64_in _ (by omega)
            go_wp2
            go_region
            go_wp2
            go_roundw
            case rel => exact ⟨j + 1, by omega, by go_num, (HS.out _ HE.out.symm).drew, (HO.out.only (only_set _ _) HNA.out).drew, (HA9.out.grown (only_set _ _) (fun e => HNE.out (Option.some.inj e))).drew, (HI.out.set_ (p := ⟨gn, j, none⟩) HGN.out _).drew⟩
            case measure => simp [intOf] <;> omega
          · skip
            obtain rfl : j = 4 := by omega
            have HW9 : Hid (Ways wr gn 4 (fun t => mbSum ds fs t (k + 1))) := Lib.hid (hwa.congr fun u hu => (if_pos hu).symm)
            have HI := Lib.hid hi
            have HA9 := Lib.hid kA
            clear hwa ho hi kA
            go_wp2
            go_roundw
            case rel => exact ⟨k + 1, by omega, by go_num, HTV.out HV.out, HW9.out, HA9.out, HI.out⟩
            case measure => simp [intOf] <;> omega
      · skip
        have HV : Hid (MustL 4 xs l ds l fs = []) := Lib.hid (HFV.out (by rw [HK.out]; exact decide_eq_false hv))
        go_wp2_with fail
        refine (sAmounts_no x0 x1 x2 f hv _).mono ?_
        rintro _ w6 ⟨g6, rfl, ho6, hb6⟩
        have i6 := i4.step hb6
        clear i4 hb6 hv ho6
        go_wp2
        go_ret
        rw [HV.out]; exact freshRow w i6
    · skip
      obtain rfl : k = l := by omega
      have HV : Hid (MustL 4 xs k ds k fs = allL (missF xs ds fs k)) := Lib.hid (MustL_t (by unfold mbB; rw [HST.out, decide_eq_true hm10, decide_eq_true rfl, allOk_t _ _ hok]; rfl))
      have HSB := Lib.hid (fun i => mbSum_in (ds := ds) (fs := fs) i k hm10 hok)
      have hw0 : Ways w8 gn 4 (fun t => if t < 0 then missF xs ds fs k t else mbSum ds fs t k) := hwa.congr (fun u hu => by simp)
      clear hwa hok
      go_wp2_with fail
      go_loopw [11] (fun i wr => ∃ j : Nat, j ≤ 4 ∧ i = .int .i64 j ∧ Ways wr gn 4 (fun t => if t < j then missF xs ds fs k t else mbSum ds fs t k) ∧ Blk wr bA 90 #[.slice (some ad) 4 cap] ∧ In w.heap.size w wr) (fun i _ => 4 - (intOf i).toNat)
      case atStart => exact ⟨0, Nat.zero_le _, rfl, hw0, kA, hi⟩
      case round =>
        clear hw0 kA hi
        obtain ⟨j, hj, rfl, hwa, kA, hi⟩ := hrel
        by_cases hj4 : j < 4
        · skip
          obtain ⟨a9, ha9, cx⟩ := (HX.out.below (In.below hi) (Nat.le_refl _)).2 j hj4
          injection ha9 with ha9
          subst ha9
          have cA := kA.cell 0
          have cz := hwa.cell j hj4
          rw [if_neg (Nat.lt_irrefl j)] at cz
          have fz := hwa.free j
          have b1 := HSB.out j
          have b2 := HXS.out j hj4
          have HE : Hid (missF xs ds fs k j = max 0 (mbSum ds fs j k - xs.getD j 0)) := Lib.hid rfl
          have HS := Lib.hid (fun v (hv : v = missF xs ds fs k j) => hwa.set_ j v (fun t => if t < j + 1 then missF xs ds fs k t else mbSum ds fs t k) (by rw [if_pos (by omega)]; exact hv.symm) (fun u hu => by
            by_cases e : u < j
            · rw [if_pos e, if_pos (by omega)]
            · rw [if_neg e, if_neg (by omega)]) hj4)
          have HI := Lib.hid hi
          have HA9 := Lib.hid kA
          clear hwa hi kA
          generalize mbSum ds fs j k = y at cz b1 HE
          generalize xs.getD j 0 = z at cx b2 HE
          have hw : IntKind.i64.wrap (y - z) = y - z := IntWalk.i64_in _ (by omega)
          go_wp2
          go_region
          go_wp2
          go_roundw
          case rel => exact ⟨j + 1, by omega, by go_num, (HS.out _ (by rw [HE.out]; first | rfl | (split <;> omega) | omega)).drew, (HA9.out.grown (only_set _ _) (fun e => HNE.out (Option.some.inj e))).drew, (HI.out.set_ (p := ⟨gn, j, none⟩) HGN.out _).drew⟩
          case measure => simp [intOf] <;> omega
        · skip
          obtain rfl : j = 4 := by omega
          have HW9 : Hid (Ways wr gn 4 (missF xs ds fs k)) := Lib.hid (hwa.congr fun u hu => (if_pos hu).symm)
          have HI := Lib.hid hi
          clear hwa hi kA
          go_wp2
          go_ret
          rw [HV.out]; exact mustRow HW9.out HGN.out HI.out.below
end Go.Proofs.Ytmkfnhgaiheckaa
