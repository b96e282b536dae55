/- Chapter 36: MustBuy, the program. -/
import Derived.Test.YtmkfnhgaiheckaaMbP
import Derived.StillTailTactics
import Derived.Deep.QuietTactic
import Derived.BigQuiet
namespace Go.Proofs.Ytmkfnhgaiheckaa
open Go.ChangeShapes Go.WideShapes Go.ChangeAt Go.RowKit
set_option linter.unusedVariables false
set_option linter.unusedSimpArgs false
set_option maxHeartbeats 2000000

set_option maxHeartbeats 16000000 in
set_option maxRecDepth 20000 in
theorem iMustBuy (ad : Addr) (n cap : Nat) (xs : List Int) (A1 : Option Addr) (m c1 : Nat) (ds : List DoughR) (A2 : Option Addr) (l c2 : Nat) (fs : List Int) (w : World) (hn : n ≤ 10000000) (hx : ReadsI w (some ad) n xs) (hm : m ≤ maxLen) (hd : ReadsDough w A1 m ds) (hl : l ≤ maxLen) (hf : ReadsI w A2 l fs) :
    Calls Try.prog 72 #[.agg #[.slice (some ad) n cap], .slice A1 m c1, .slice A2 l c2] w (RowB (MustL n xs m ds l fs) w) := by
  obtain ⟨i0, hi0, hz0, hz1, hz2⟩ := info_parts infoN
  have HX := Lib.hid hx
  have hlen := hx.1
  clear hx
  unfold maxLen at hm hl
  obtain ⟨bA, hbA⟩ : ∃ b, b = w.heap.size := ⟨_, rfl⟩
  have kA : Blk (w.alloc (.cells #[.slice (some ad) n cap] 90)) bA 90 #[.slice (some ad) n cap] := Blk.new' hbA
  have i0' : In w.heap.size w (w.alloc (.cells #[.slice (some ad) n cap] 90)) := by (repeat (first | exact In.refl _ | assumption | apply In.alloc | apply In.drewN | apply In.drew | (refine In.step ?_ (by assumption))))
  go_enter Try.func72, Try.ntmps72
  go_wp2_with fail
  rw [← hbA]
  clear hbA
  generalize (w.alloc (.cells #[.slice (some ad) n cap] 90)) = w0 at *
  have cA := kA.cell 0
  go_wp2_with fail
  refine (iStoreOk (some ad) n cap xs _ (by unfold maxLen; omega) (HX.out.below (In.below (by (repeat (first | exact In.refl _ | assumption | apply In.alloc | apply In.drewN | apply In.drew | (refine In.step ?_ (by assumption)))))) (Nat.le_refl _))).mono ?_
  rintro _ w1 ⟨rfl, hb1⟩
  have i1 : In w.heap.size w w1 := i0'.step hb1
  have k1 := kA.step hb1
  have cA1 := k1.cell 0
  clear kA i0' cA hb1
  cases hst : stB n xs
  · skip
    have HV : Hid (MustL n xs m ds l fs = []) := Lib.hid (MustL_f (by unfold mbB; rw [hst]; rfl))
    go_wp2
    go_ret
    rw [HV.out]; exact emptyRow w (In.below (by (repeat (first | exact In.refl _ | assumption | apply In.alloc | apply In.drewN | apply In.drew | (refine In.step ?_ (by assumption))))))
  by_cases hm11 : 10 < m
  · skip
    have HV : Hid (MustL n xs m ds l fs = []) := Lib.hid (MustL_f (by unfold mbB; rw [decide_eq_false (show ¬ m ≤ 10 by omega)]; simp))
    go_wp2
    go_ret
    rw [HV.out]; exact emptyRow w (In.below (by (repeat (first | exact In.refl _ | assumption | apply In.alloc | apply In.drewN | apply In.drew | (refine In.step ?_ (by assumption))))))
  have hm10 : m ≤ 10 := by omega
  clear hm11
  by_cases hlm : ¬ l = m
  · skip
    have HV : Hid (MustL n xs m ds l fs = []) := Lib.hid (MustL_f (by unfold mbB; rw [decide_eq_false hlm]; simp))
    have hlm2 : ¬ (l : Int) = (m : Int) := by omega
    have hlm3 : ((l : Int) == (m : Int)) = false := by simpa using hlm2
    have hlm5 : ((l : Int) != (m : Int)) = true := by simp; omega
    go_wp2
    go_ret
    rw [HV.out]; exact emptyRow w (In.below (by (repeat (first | exact In.refl _ | assumption | apply In.alloc | apply In.drewN | apply In.drew | (refine In.step ?_ (by assumption))))))
  have hlm2 : l = m := by omega
  clear hlm
  subst hlm2
  obtain ⟨hn4, hxs⟩ := st_at hst
  subst hn4
  have HXS := Lib.hid hxs
  have HST := Lib.hid hst
  clear hxs hst
  go_wp2_with fail
  refine (itaking ad 4 cap xs _ (by omega) (HX.out.below (In.below (by (repeat (first | exact In.refl _ | assumption | apply In.alloc | apply In.drewN | apply In.drew | (refine In.step ?_ (by assumption)))))) (Nat.le_refl _))).mono ?_
  rintro _ w2 ⟨g, c, bT, rfl, ho, hg, kT, hT, hb2⟩
  rw [hlen] at ho kT
  rw [hlen]
  have i2 : In w.heap.size w w2 := i1.step hb2
  have hwT : w.heap.size ≤ bT := Nat.le_trans i1.size hT
  have hwg : w.heap.size ≤ g := Nat.le_trans i1.size hg
  have HWT := Lib.hid hwT
  have HWG := Lib.hid hwg
  clear hwT hwg hg hT hb2 i1 k1 cA1
  go_wp2_with fail
  obtain ⟨bL, hbL⟩ : ∃ b, b = w2.heap.size := ⟨_, rfl⟩
  have kL : Blk (w2.alloc (.cells #[.slice (some ⟨g, 0, none⟩) 4 c] 90)) bL 90 #[.slice (some ⟨g, 0, none⟩) 4 c] := Blk.new' hbL
  have kT3 : Blk (w2.alloc (.cells #[.slice (some ⟨g, 0, none⟩) 4 c] 90)) bT 90 #[.slice (some ⟨g, 0, none⟩) 4 c] := kT.alloc _
  have ho3 : OwnC (w2.alloc (.cells #[.slice (some ⟨g, 0, none⟩) 4 c] 90)) g 4 c (allL (leftF xs ds fs 0)) := by rw [left_0 ds fs hlen]; exact ho.alloc _
  have i3 : In w.heap.size w (w2.alloc (.cells #[.slice (some ⟨g, 0, none⟩) 4 c] 90)) := i2.alloc _
  have HWL : Hid (w.heap.size ≤ bL) := Lib.hid (by rw [hbL]; exact i2.size)
  rw [← hbL]
  clear hbL ho kT i2
  generalize (w2.alloc (.cells #[.slice (some ⟨g, 0, none⟩) 4 c] 90)) = w3 at *
  go_loopw [37] (fun i wr => ∃ k : Nat, k ≤ l ∧ i = .int .i64 k ∧ (∀ j, j < k → mbOk ds fs j = true) ∧ OwnC wr g 4 c (allL (leftF xs ds fs k)) ∧ Blk wr bT 90 #[.slice (some ⟨g, 0, none⟩) 4 c] ∧ Blk wr bL 90 #[.slice (some ⟨g, 0, none⟩) 4 c] ∧ In w.heap.size w wr) (fun i _ => l - (intOf i).toNat)
  case atStart => exact ⟨0, Nat.zero_le _, rfl, fun j hj => absurd hj (Nat.not_lt_zero _), ho3, kT3, kL, i3⟩
  case round =>
    clear ho3 kT3 kL i3
    obtain ⟨k, hk, rfl, hok, ho, kT, kL, hi⟩ := hrel
    by_cases hlt : k < l
    · skip
      obtain ⟨a1, rfl, d0, d1, d2⟩ := (hd.in_ hi).2 k hlt
      obtain ⟨a2, ha2, hcf⟩ := (hf.below (In.below hi) (Nat.le_refl _)).2 k hlt
      subst ha2
      have HK : Hid (mbOk ds fs k = decide (dOk (ds.getD k z36).f0 (ds.getD k z36).f1 (ds.getD k z36).f2 = true ∧ 0 ≤ fs.getD k 0 ∧ fs.getD k 0 ≤ 1000000)) := Lib.hid rfl
      have HA : Hid (mbAm ds fs k = amV (ds.getD k z36).f0 (ds.getD k z36).f1 (ds.getD k z36).f2 (fs.getD k 0)) := Lib.hid rfl
      have HOK := Lib.hid hok
      have HTV : Hid (mbOk ds fs k = true → ∀ j, j < k + 1 → mbOk ds fs j = true) := Lib.hid (fun h j hj => by
        by_cases e : j = k
        · subst e; exact h
        · exact HOK.out j (by omega))
      have HFV : Hid (mbOk ds fs k = false → MustL 4 xs l ds l fs = []) := Lib.hid (fun h => MustL_f (by unfold mbB; rw [allOk_f _ _ k hlt h]; simp))
      have HLS := Lib.hid (left_step xs ds fs k)
      have HHD := Lib.hid hd
      have HHF := Lib.hid hf
      clear hok
      change wr.cell? _ = some (.int .i64 (ds.getD k z36).f0) at d0
      change wr.cell? _ = some (.int .i64 (ds.getD k z36).f1) at d1
      change wr.cell? _ = some (.int .i64 (ds.getD k z36).f2) at d2
      generalize ds.getD k z36 = x at d0 d1 d2 HK HA
      generalize fs.getD k 0 = f at hcf HK HA
      obtain ⟨x0, x1, x2⟩ := x
      simp only at d0 d1 d2 HK HA
      clear hd hf
      have HO := Lib.hid ho
      have HT := Lib.hid kT
      have HL := Lib.hid kL
      clear ho kT kL
      have q0 : Blk (wr.alloc (.cells #[.int .i64 x0, .int .i64 x1, .int .i64 x2] 164)) wr.heap.size 164 #[.int .i64 x0, .int .i64 x1, .int .i64 x2] := Blk.new wr _ _
      have e0 := q0.cell 0
      have e1 := q0.cell 1
      have e2 := q0.cell 2
      have ef : (wr.alloc (.cells #[.int .i64 x0, .int .i64 x1, .int .i64 x2] 164)).cell? (a2.add k) = some (.int .i64 f) := cell_in hcf ((In.refl wr).alloc _)
      clear q0 hcf
      go_wp2_with fail
      obtain ⟨bD, hbD⟩ : ∃ b, b = wr.heap.size := ⟨_, rfl⟩
      have hi4 : In w.heap.size w (wr.alloc (.cells #[.int .i64 x0, .int .i64 x1, .int .i64 x2] 164)) := hi.alloc _
      have HB4 : Hid (Below wr.heap.size wr (wr.alloc (.cells #[.int .i64 x0, .int .i64 x1, .int .i64 x2] 164))) := Lib.hid ((Below.refl _ wr).alloc (Nat.le_refl _) _)
      rw [← hbD] at e0 e1 e2 ⊢
      generalize (wr.alloc (.cells #[.int .i64 x0, .int .i64 x1, .int .i64 x2] 164)) = w4 at *
      clear hbD hi
      go_still_tail 5, (by kernel_rfl)
      change wpList _ _ _ _ _ w4.drew
      have i4 : In w.heap.size w w4.drew := hi4.drew
      generalize hw5 : w4.drew = w5 at i4 ⊢
      have HB5 : Hid (Below wr.heap.size wr w5) := Lib.hid (hw5 ▸ HB4.out.drew)
      clear hi4 e0 e1 e2 ef d0 d1 d2 HB4 hw5
      by_cases hv : dOk x0 x1 x2 = true ∧ 0 ≤ f ∧ f ≤ 1000000
      · skip
        have HV : Hid (mbOk ds fs k = true) := Lib.hid (by rw [HK.out]; exact decide_eq_true hv)
        have hkb := Lib.hid (fun i => mbAm_in HV.out i)
        obtain ⟨hv1, hv2, hv3⟩ := hv
        go_wp2_with fail
        refine (iAm x0 x1 x2 f hv1 hv2 hv3 _).mono ?_
        rintro _ w6 ⟨ga, rfl, ho6, hg6, hb6⟩
        clear hv1 hv2 hv3
        have HG6 : Hid (wr.heap.size ≤ ga) := Lib.hid (by have := HB5.out.size; omega)
        have HB6 := Lib.hid (HB5.out.trans (hb6.mono HB5.out.size))
        have i6 := i4.step hb6
        rw [← HA.out] at ho6
        have HA6 := Lib.hid ho6
        clear i4 hb6 hg6 ho6
        have hnil := fun (w : World) => Lib.run_eql_slice_nil (P := Try.prog) w 43 3 (some ⟨ga, 0, none⟩) 4 4 0 0 Try.underlying43
        go_wp2_with fail
        clear hnil
        have ho7 := HO.out.step HB6.out
        have kT7 := HT.out.step HB6.out
        have kL7 := HL.out.step HB6.out
        have hgw := HO.out.lt
        have hne : ga ≠ g := by have := HG6.out; omega
        have nT := ho7.ne kT7 (by decide)
        have nL := ho7.ne kL7 (by decide)
        have hin : ∀ i, i < 4 → -1000000000 ≤ (allL (leftF xs ds fs k)).getD i 0 - (mbAm ds fs k).getD i 0 ∧ (allL (leftF xs ds fs k)).getD i 0 - (mbAm ds fs k).getD i 0 ≤ 1000000000 := fun i h => by
          rw [allL_at _ _ h]
          have h1 := HXS.out i h
          have h2 := mbSum_in (ds := ds) (fs := fs) i k (by omega) HOK.out
          have h3 := hkb.out i
          show _ ≤ xs.getD i 0 - mbSum ds fs i k - _ ∧ xs.getD i 0 - mbSum ds fs i k - _ ≤ _
          omega
        refine (itake bT g 4 c ga 4 (allL (leftF xs ds fs k)) (mbAm ds fs k) _ (by omega) kT7 ho7 HA6.out.reads hne hin).mono ?_
        rintro _ w7 ⟨rfl, ho8, hg8⟩
        rw [HLS.out] at ho8
        have HO8 := Lib.hid ho8
        have HT8 := Lib.hid (kT7.grown hg8 (fun e => by injection e with e; omega))
        have HL8 := Lib.hid (kL7.grown hg8 (fun e => by injection e with e; omega))
        have HI8 : Hid (In w.heap.size w w7) := Lib.hid ⟨i6.below.grown hg8 i6.size (fun q e => by injection e with e; have := HWG.out; omega), Nat.le_trans i6.size hg8.size⟩
        clear hin ho7 kT7 kL7 hgw hne nT nL i6 ho8 hg8
        go_wp2
        go_roundw
        case rel => exact ⟨k + 1, by omega, by go_num, HTV.out HV.out, HO8.out, HT8.out, HL8.out, HI8.out⟩
        case measure => simp [intOf] <;> omega
      · skip
        have HV : Hid (MustL 4 xs l ds l fs = []) := Lib.hid (HFV.out (by rw [HK.out]; exact decide_eq_false hv))
        go_wp2_with fail
        refine (iAmounts_no x0 x1 x2 f hv _).mono ?_
        rintro _ w6 ⟨rfl, hb6⟩
        have i6 := i4.step hb6
        clear i4 hb6 hv
        have hnil := fun (w : World) => Lib.run_eql_slice_nil (P := Try.prog) w 43 3 (none) 0 0 0 0 Try.underlying43
        go_wp2
        go_ret
        rw [HV.out]; exact emptyRow w (In.below (by (repeat (first | exact In.refl _ | assumption | apply In.alloc | apply In.drewN | apply In.drew | (refine In.step ?_ (by assumption))))))
    · skip
      obtain rfl : k = l := by omega
      have HV : Hid (MustL 4 xs k ds k fs = allL (missF xs ds fs k)) := Lib.hid (MustL_t (by unfold mbB; rw [HST.out, decide_eq_true hm10, decide_eq_true rfl, allOk_t _ _ hok]; rfl))
      have HM : Hid (∀ i, i < 4 → -200000000 ≤ leftF xs ds fs k i ∧ leftF xs ds fs k i ≤ 200000000 ∧ missF xs ds fs k i = max 0 (-(leftF xs ds fs k i))) := Lib.hid (fun i h => by
        have h1 := HXS.out i h
        have h2 := mbSum_in (ds := ds) (fs := fs) i k hm10 hok
        unfold missF leftF
        omega)
      obtain ⟨w8, hw8⟩ : ∃ q, q = wr := ⟨_, rfl⟩
      subst hw8
      have HO := Lib.hid ho
      have HI := Lib.hid hi
      have cL := kL.cell 0
      have hgl := ho.lt
      have HGL := Lib.hid hgl
      clear hok ho kT hi hgl
      go_wp2_with (at_make; refine wpList_make_full _ rfl (.const (.int .i64 4)) (.const (.int .i64 4)) 43 rfl w8.heap.size 3 i0 (.int .i64 0) 1 Try.underlying43 hi0 hz0 hz1 .i64 .i64 (4 : Int) (4 : Int) 4 rfl rfl rfl rfl ?h2 ?h3 ?h4 ?_)
      case h2 => rw [hz2]; omega
      case h3 => unfold maxLen; omega
      case h4 => exact Nat.le_refl _
      intro w9 hown0 hgrow0
      have hb0 : Below w8.heap.size w8 w9 := (Below.refl _ _).grown hgrow0 (Nat.le_refl _) (fun j hj => by cases hj)
      have hwa : Ways w9 w8.heap.size 4 (fun t => if t < 0 then missF xs ds fs k t else 0) := (ways_made (by rw [toList_madeCells_one] at hown0; exact hown0)).congr (fun u hu => by simp)
      have i9 : In w.heap.size w w9 := HI.out.step hb0
      have o9 := HO.out.step hb0
      have cL9 := (kL.step hb0).cell 0
      clear hgrow0 hown0 hb0 cL kL
      obtain ⟨gm, hgm⟩ : ∃ g, g = w8.heap.size := ⟨_, rfl⟩
      have HGM : Hid (w.heap.size ≤ gm ∧ g ≠ gm) := Lib.hid (by have h1 := HI.out.size; have h2 := HGL.out; omega)
      rw [← hgm] at hwa ⊢
      clear hgm
      go_wp2_with fail
      go_loopw [58] (fun i wr => ∃ j : Nat, j ≤ 4 ∧ i = .int .i64 j ∧ Ways wr gm 4 (fun t => if t < j then missF xs ds fs k t else 0) ∧ OwnC wr g 4 c (allL (leftF xs ds fs k)) ∧ In w.heap.size w wr) (fun i _ => 4 - (intOf i).toNat)
      case atStart => exact ⟨0, Nat.zero_le _, rfl, hwa, o9, i9⟩
      case round =>
        clear hwa o9 i9 cL9
        obtain ⟨j, hj, rfl, hwa, ho, hi⟩ := hrel
        by_cases hj4 : j < 4
        · skip
          have cy := ho.cellI hj4
          rw [allL_at _ _ hj4] at cy
          have cz := hwa.cell j hj4
          have fz := hwa.free j
          obtain ⟨b1, b2, b3⟩ := HM.out j hj4
          have HS := Lib.hid (fun v (hv : v = missF xs ds fs k j) => hwa.set_ j v (fun t => if t < j + 1 then missF xs ds fs k t else 0) (by rw [if_pos (by omega)]; exact hv.symm) (fun u hu => by
            by_cases e : u < j
            · rw [if_pos e, if_pos (by omega)]
            · rw [if_neg e, if_neg (by omega)]) hj4)
          have HB3 := Lib.hid b3
          have HO := Lib.hid ho
          have HI := Lib.hid hi
          clear hwa ho hi b3
          generalize leftF xs ds fs k j = y at cy b1 b2 HB3
          have hw : IntKind.i64.wrap (-y) = -y := IntWalk.i64_in _ (by omega)
          go_wp2
          go_roundw
          case rel => exact ⟨j + 1, by omega, by go_num, HS.out _ (by rw [HB3.out]; first | rfl | (split <;> omega) | omega), HO.out.only (only_set _ _) HGM.out.2, HI.out.set_ (p := ⟨gm, j, none⟩) HGM.out.1 _⟩
          case measure => simp [intOf] <;> omega
        · skip
          obtain rfl : j = 4 := by omega
          have HW : Hid (Ways wr gm 4 (missF xs ds fs k)) := Lib.hid (hwa.congr fun u hu => (if_pos hu).symm)
          have HI := Lib.hid hi
          clear hwa ho hi
          go_wp2
          go_ret
          rw [HV.out]; exact mustRow HW.out HGM.out.1 HI.out.below
end Go.Proofs.Ytmkfnhgaiheckaa
