/- Chapter 17: Reached: the program. -/
import Derived.Test.YtgjbbidcpmglbaaK17
import Derived.Test.YtgjbbidcpmglbaaJ17
namespace Go.Proofs.Ytgjbbidcpmglbaa
open Go.Maps Go.Sort Go.Shelf Go.ChangeShapes Go.WideShapes Go.ChangeAt Go.RowKit
set_option linter.unusedVariables false
set_option linter.unusedSimpArgs false
set_option maxHeartbeats 2000000

set_option maxRecDepth 20000 in
set_option maxHeartbeats 4000000 in
theorem iReached (A : Option Addr) (n c : Nat) (xs : List UseR) (a : Int) (w : World) (hn : n ≤ maxLen) (hx : ReadsUse w A n xs) (hwa : (Lit.int .i64 a).wf = true := by assumption) : Calls Try.prog 40 #[.slice A n c, .int .i64 a] w (RowB (ReachedL n xs a) w) := by
  obtain ⟨i0, hi0, hz0, hz1, hz2⟩ := info_parts infoI
  have HX := Lib.hid hx
  have HN := Lib.hid hn
  have HWA := Lib.hid hwa
  clear hx hn hwa
  cases hB : usesB n xs
  · have HV : Hid (ReachedL n xs a = []) := Lib.hid (by simp [ReachedL, hB])
    go_enter Try.func40, Try.ntmps40
    go_wp2_with fail
    refine (iUsesOk A n c xs _ HN.out HX.out).mono ?_
    rintro _ w1 ⟨rfl, hb1⟩
    rw [hB]
    go_wp2
    go_ret
    rw [HV.out]
    exact rowB_of rfl ⟨rfl, .inl ⟨rfl, rfl⟩⟩ (In.below (by (repeat (first | exact In.refl _ | assumption | apply In.alloc | apply In.drewN | apply In.drew | (refine In.step ?_ (by assumption))))))
  have HV : Hid (ReachedL n xs a = idxTo (reP n xs a) 51) := Lib.hid (by simp [ReachedL, hB])
  have HBB := Lib.hid hB
  obtain ⟨h60, hs⟩ := uses_at hB
  have HS := Lib.hid hs
  clear hs
  go_enter Try.func40, Try.ntmps40
  go_wp2_with fail
  refine (iUsesOk A n c xs _ HN.out HX.out).mono ?_
  rintro _ w1 ⟨rfl, hb1⟩
  rw [hB]
  clear hB
  have HI1 := Lib.hid (In.step (In.refl w) hb1)
  clear hb1
  have hset0 : SetF (w1.alloc (.map #[] 0)) w1.heap.size 0 (setNm xs 0) := SetF.made w1
  have HSET0 := Lib.hid hset0
  clear hset0
  have hmm := @run_makeMap Try.prog
  go_wp2
  clear hmm
  have hset0 := HSET0.out
  go_loopw [18] (fun i wr => ∃ k m : Nat, k ≤ n ∧ m ≤ k ∧ i = .int .i64 k ∧ SetF wr w1.heap.size m (setNm xs k) ∧ In w1.heap.size w1 wr) (fun i _ => n - (intOf i).toNat)
  case atStart => exact ⟨0, 0, Nat.zero_le _, Nat.le_refl _, rfl, hset0, by (repeat (first | exact In.refl _ | assumption | apply In.alloc | apply In.drewN | apply In.drew | (refine In.step ?_ (by assumption))))⟩
  case round =>
    clear hset0
    obtain ⟨k, m, hk, hm, rfl, hset, hi⟩ := hrel
    by_cases hlt : k < n
    · obtain ⟨a', rfl, ha0, ha1, ha2⟩ := (HX.out.in_ (HI1.out.trans hi)).2 k hlt
      have HE : Hid (setNm xs (k + 1) = ins (setNm xs k) (xs.getD k z17).f0) := Lib.hid rfl
      have HB := use_in (HS.out k hlt)
      generalize xs.getD k z17 = x at ha0 ha1 ha2 HE HB
      obtain ⟨x0, x1, x2⟩ := x
      simp only at ha0 ha1 ha2 HE HB
      have HSET := Lib.hid hset
      clear hset
      have hwf : (Lit.int .i64 x0).wf = true := WalkArith.wf_i64 (by omega)
      have HWF := Lib.hid hwf
      clear hwf
      go_wp2_with (first | (at_mapUpdate; refine wpList_storeB _ rfl _ _ _ rfl w1.heap.size m (setNm xs k) rfl (SetF.alloc HSET.out _) (by unfold maxLen; omega) x0 rfl rfl HWF.out ?_; intro w2 hset2 hg2))
      have hi3 := hg2.size
      have hi2 : In w1.heap.size w1 w2 := In.wide (In.alloc hi _) (below_of_only hg2 (Nat.le_refl _) (In.size (In.alloc hi _)))
      clear hi3
      go_wp2
      go_roundw
      case rel => exact ⟨k + 1, m + 1, by omega, by omega, by go_num, by rw [HE.out]; exact hset2, hi2⟩
      case measure => simp [intOf]; omega
    · obtain rfl : n = k := by omega
      have HSET := Lib.hid hset
      have hiw := HI1.out.trans hi
      have hmw : w.heap.size ≤ w1.heap.size := HI1.out.size
      have hml := hset.lt
      clear hset hi HSET0
      generalize w1.heap.size = gm at *
      cases hnm : setNm xs n a
      · have HR : Hid (idxTo (reP n xs a) 51 = []) := Lib.hid (reach_none HBB.out a hnm)
        go_wp2_with (first | (at_lookup; refine wpList_lookupB _ rfl _ _ rfl gm m (setNm xs n) rfl HSET.out a rfl HWA.out ?_; rw [hnm]))
        (try go_wp2)
        go_ret
        rw [HV.out, HR.out]
        exact rowB_of rfl ⟨rfl, .inl ⟨rfl, rfl⟩⟩ (In.below (by (repeat (first | exact In.refl _ | assumption | apply In.alloc | apply In.drewN | apply In.drew | (refine In.step ?_ (by assumption))))))
      have HNA := Lib.hid ((setNm_iff xs a n).1 hnm)
      go_wp2_with (first | (at_lookup; refine wpList_lookupB _ rfl _ _ rfl gm m (setNm xs n) rfl HSET.out a rfl HWA.out ?_; rw [hnm]) | (at_delete; refine wpList_deleteB _ rfl _ _ rfl gm m (setNm xs n) rfl HSET.out a rfl HWA.out ?_; intro w2 hset2 hg2))
      have i2 : In w.heap.size w w2 := In.wide hiw (below_of_only hg2 hmw hiw.size)
      have hb2 : Bfs n xs a [a] 0 := ⟨by simp, fun x hx => by simp at hx; subst hx; exact .start HNA.out, by simp, Nat.zero_le _, fun j hj => absurd hj (Nat.not_lt_zero _)⟩
      rw [uns_one] at hset2
      have ho3 : OwnC (w2.alloc (.cells #[.int .i64 a] 3)) w2.heap.size 1 1 [a] := own_lit w2 3 #[.int .i64 a] 1 w2.heap.size rfl (Nat.le_refl _) (by unfold maxLen; omega)
      have i3 : In w.heap.size w (w2.alloc (.cells #[.int .i64 a] 3)) := i2.alloc _
      have set3 := hset2.alloc (.cells #[.int .i64 a] 3)
      have hgm3 : w2.heap.size ≠ gm := by have := hset2.lt; omega
      have HO3 := Lib.hid ho3
      have HI3 := Lib.hid i3
      have HS3 := Lib.hid set3
      have HB2 := Lib.hid hb2
      have HG3 := Lib.hid hgm3
      have HW3 := Lib.hid i2.size
      clear ho3 i3 set3 hb2 hgm3 hset2 hg2 i2 HSET hiw hml hnm
      (try go_wp2)
      generalize hg3 : w2.heap.size = g3 at *
      generalize w2.alloc (.cells #[.int .i64 a] 3) = w3 at *
      clear hg3
      go_loopw [8, 9] (fun v i wr => ∃ (R : List Int) (t g cp m : Nat), Bfs n xs a R t ∧ i = .int .i64 t ∧ v = .slice (some ⟨g, 0, none⟩) R.length cp ∧ OwnC wr g R.length cp R ∧ g ≠ gm ∧ w.heap.size ≤ g ∧ SetF wr gm m (uns n xs R) ∧ In w.heap.size w wr) (fun _ i _ => 60 - (intOf i).toNat)
      case atStart => exact ⟨[a], 0, g3, 1, m, HB2.out, rfl, rfl, HO3.out, HG3.out, HW3.out, HS3.out, HI3.out⟩
      case round =>
        clear HB2 HO3 HG3 HW3 HS3 HI3
        obtain ⟨R, t, g, cp, m, hbf, rfl, rfl, ho, hgg, hgw, hst, hi⟩ := hrel
        have hRl := hbf.len HBB.out
        have htR := hbf.le
        have hB9 := HBB.out
        by_cases hlt : t < R.length
        · obtain ⟨a', ha', hc'⟩ := (OwnC.reads ho).2 t hlt
          injection ha' with ha'
          subst ha'
          rw [Addr.add_lit, Nat.zero_add] at hc'
          have hqm : R.getD t 0 ∈ R := by rw [List.getD_eq_getElem?_getD, List.getElem?_eq_getElem hlt]; exact List.getElem_mem hlt
          have HBF := Lib.hid hbf
          have HQM := Lib.hid hqm
          have HQE : Hid (R.getD t 0 = R.getD t 0) := Lib.hid rfl
          generalize hq : R.getD t 0 = q at hc' HQM
          have HQ := Lib.hid hq
          have HLT := Lib.hid hlt
          have HTR := Lib.hid htR
          have HO := Lib.hid ho
          have HST := Lib.hid hst
          have HGG := Lib.hid hgg
          have HII := Lib.hid hi
          have ht60 : t ≤ 51 := by omega
          have hlt' : (t : Int) < (R.length : Int) := by omega
          have hbd := bedL_len n xs q
          clear hq hlt htR ho hst hgg hi hbf hqm hB9
          generalize hrl : R.length = rl at *
          have HRL := Lib.hid hrl
          clear hrl
          go_wp2_with fail
          refine (ilotsBeside A n c xs q _ HN.out (HX.out.in_ HII.out) HBB.out).mono ?_
          rintro _ w4 ⟨AN, cN, rfl, hoN, hb4⟩
          have HMB : Hid (∀ x, x ∈ bedL n xs q ↔ ∃ b, hasU xs q b n = true ∧ hasU xs x b n = true) := Lib.hid (mem_bedL HS.out q)
          generalize bedL n xs q = Ns at *
          generalize hnl : Ns.length = nl at *
          have HNL := Lib.hid hnl
          clear hnl
          have o4 := (HO.out).step hb4
          have s4 := HST.out.step hb4
          have i4 := In.step HII.out hb4
          have hneN : ∀ j, (Value.slice AN nl cN).ownBlock = some j → j ≠ g ∧ j ≠ gm := fun j hj => by
            have h1 := own_ge17 hoN j hj
            have h2 := own_lt HO.out g rfl
            have h3 := HST.out.lt
            omega
          have HN4 := Lib.hid hneN
          have HON := Lib.hid hoN
          have HO4 := Lib.hid o4
          have HS4 := Lib.hid s4
          have HI4 := Lib.hid i4
          clear hneN hoN o4 s4 i4 hb4 HO HST HII hc'
          go_wp2
          go_loopw [8, 47] (fun v i wr => ∃ (R' : List Int) (s g' cp' m' BN : Nat), Bfs n xs a R' t ∧ (∃ ext, R' = R ++ ext) ∧ s ≤ nl ∧ i = .int .i64 s ∧ (∀ j, j < s → Ns.getD j 0 ∈ R') ∧ v = .slice (some ⟨g', 0, none⟩) R'.length cp' ∧ OwnC wr g' R'.length cp' R' ∧ g' ≠ gm ∧ w.heap.size ≤ g' ∧ SetF wr gm m' (uns n xs R') ∧ wr.ownsRow BN 3 1 (.slice AN nl cN) nl (iv Ns) ∧ (∀ j, (Value.slice AN nl cN).ownBlock = some j → j ≠ g' ∧ j ≠ gm) ∧ In w.heap.size w wr) (fun _ i _ => nl - (intOf i).toNat)
          case atStart => exact ⟨R, 0, g, cp, m, _, HBF.out, ⟨[], by simp⟩, Nat.zero_le _, rfl, fun j hj => absurd hj (Nat.not_lt_zero _), by rw [HRL.out], by rw [HRL.out]; exact HO4.out, HGG.out, hgw, HS4.out, HON.out, HN4.out, HI4.out⟩
          case round =>
            clear HN4 HON HO4 HS4 HI4
            obtain ⟨R', s, g', cp', m', BN, hbf, ⟨ext, hext⟩, hs, rfl, hin, rfl, ho, hgg, hgw', hst, hoN, hneN, hi⟩ := hrel
            have hRl' := hbf.len HBB.out
            have HEXT := Lib.hid hext
            have HIN := Lib.hid hin
            clear hext hin
            by_cases hsn : s < nl
            · obtain ⟨a', ha', hc'⟩ := (reads_own_i hoN).2 s hsn
              have hNm : Ns.getD s 0 ∈ Ns := by rw [List.getD_eq_getElem?_getD, List.getElem?_eq_getElem (by rw [HNL.out]; exact hsn)]; exact List.getElem_mem _
              generalize hne : Ns.getD s 0 = e at hc' hNm
              obtain ⟨b, hb1, hb2⟩ := (HMB.out e).1 hNm
              have hr9 := hasU_in HS.out hb2
              have hwf : (Lit.int .i64 e).wf = true := WalkArith.wf_i64 (by omega)
              have hse : setNm xs n e = true := by
                obtain ⟨k, hk, h1, _⟩ := hasU_iff.1 hb2
                exact (setNm_iff xs e n).2 ⟨k, hk, h1⟩
              have HWF := Lib.hid hwf
              have HNE := Lib.hid hne
              have HBF' := Lib.hid hbf
              have HB1 := Lib.hid hb1
              have HB2 := Lib.hid hb2
              have HSE := Lib.hid hse
              have HO := Lib.hid ho
              have HST := Lib.hid hst
              have HGG' := Lib.hid hgg
              have HNB := Lib.hid hneN
              have HOO := Lib.hid hoN
              have HII := Lib.hid hi
              have HSN := Lib.hid hsn
              have HGW := Lib.hid hgw'
              have hsI : (s : Int) < (nl : Int) := by omega
              subst ha'
              clear hwf hne hbf hb1 hb2 hse ho hst hgg hneN hoN hi hNm hsn hgw' hs
              cases hun : uns n xs R' e
              · have hmem : e ∈ R' := by
                  simp only [uns, HSE.out, Bool.true_and, Bool.not_eq_false', memL, decide_eq_true_eq] at hun
                  exact hun
                have HME := Lib.hid hmem
                clear hmem
                go_wp2_with (first | (at_lookup; refine wpList_lookupB _ rfl _ _ rfl gm m' (uns n xs R') rfl HST.out e rfl HWF.out ?_; rw [hun]))
                (try go_wp2)
                go_roundw
                case rel => exact ⟨R', s + 1, g', cp', m', BN, HBF'.out, ⟨ext, HEXT.out⟩, HSN.out, by go_num, fun j hj => by
                    by_cases ej : j = s
                    · subst ej; rw [HNE.out]; exact HME.out
                    · exact HIN.out j (by omega), rfl, HO.out, HGG'.out, HGW.out, HST.out, HOO.out, HNB.out, HII.out⟩
                case measure => have := HSN.out; simp [intOf]; omega
              · have hmem : e ∉ R' := by
                  simp only [uns, HSE.out, Bool.true_and, Bool.not_eq_true', memL, decide_eq_false_iff_not] at hun
                  exact hun
                have HME := Lib.hid hmem
                clear hmem
                have hp60 : R'.length + 1 ≤ 1000000 := by omega
                have hgj : ∀ j, (Value.slice (some ⟨g', 0, none⟩) R'.length cp').ownBlock = some j → j ≠ gm := fun j hj => by simp [Value.ownBlock] at hj; subst hj; exact HGG'.out
                have HGJ := Lib.hid hgj
                have HJN : Hid (∀ j, (Value.slice (some a') nl cN).ownBlock = some j → j ≠ gm) := Lib.hid (fun j hj => (HNB.out j hj).2)
                have HOR := Lib.hid HO.out
                clear hgj
                generalize hrl' : R'.length = rl' at *
                have HRL' := Lib.hid hrl'
                clear hrl'
                go_wp2_with (first | (at_lookup; refine wpList_lookupB _ rfl _ _ rfl gm m' (uns n xs R') rfl HST.out e rfl HWF.out ?_; rw [hun]) | (at_delete; refine wpList_deleteB _ rfl _ _ rfl gm m' (uns n xs R') rfl HST.out e rfl HWF.out ?_; intro w5 hset5 hg5; have o5 : OwnC w5 g' rl' cp' R' := own_other HO.out hg5 HGJ.out; have HSET5 := Lib.hid hset5; have HG5 := Lib.hid hg5; clear hset5 hg5) | (at_builtin; refine wpList_app2 w5 rfl (.tmp 56) (.tmp 58) 27 rfl i0 (.int .i64 0) Try.underlying27 hi0 hz0 hz1 hz2 rfl g' rl' cp' R' rfl o5 e rfl hp60 ?_; intro g9 c9 w9 hown9 hg9 hgr9))
                have hset5 := HSET5.out
                rw [uns_app] at hset5
                have n5 := own_other HOO.out HG5.out HJN.out
                have i5 : In w.heap.size w w5 := In.wide HII.out (below_of_only HG5.out hmw HII.out.size)
                clear HSET5
                have HSET5 := Lib.hid hset5
                have HN5 := Lib.hid n5
                have HI5 := Lib.hid i5
                clear hset5 n5 i5 HOO HII HST
                have hi9 : In w.heap.size w w9 := In.wide HI5.out (below_of_only hgr9 HGW.out HI5.out.size)
                have hset9 : SetF w9 gm m' (uns n xs (R' ++ [e])) := HSET5.out.kept hgr9 (fun h => by injection h with h; exact HGG'.out h.symm)
                have n9 := own_other HN5.out hgr9 (fun j hj => (HNB.out j hj).1)
                have hlp : (R' ++ [e]).length = rl' + 1 := by rw [List.length_append, HRL'.out]; rfl
                have hgw9 : w.heap.size ≤ g9 := by rcases hg9 with rfl | h; exact HGW.out; exact Nat.le_trans HI5.out.size h
                have hgm9 : g9 ≠ gm := by
                  rcases hg9 with rfl | h
                  · exact HGG'.out
                  · have := HSET5.out.lt; omega
                have hnb9 : ∀ j, (Value.slice (some a') nl cN).ownBlock = some j → j ≠ g9 ∧ j ≠ gm := fun j hj => by
                  refine ⟨?_, (HNB.out j hj).2⟩
                  rcases hg9 with rfl | h
                  · exact (HNB.out j hj).1
                  · have := own_lt HN5.out j hj; omega
                have hqR : q ∈ R' := by rw [HEXT.out]; exact List.mem_append.2 (.inl HQM.out)
                have hbf9 : Bfs n xs a (R' ++ [e]) t := HBF'.out.app hqR HB1.out HB2.out HME.out
                have HB9 := Lib.hid hbf9
                have HLP := Lib.hid hlp
                have HG9 := Lib.hid hgm9
                have HNB9 := Lib.hid hnb9
                have HS9 := Lib.hid hset9
                have HO9 := Lib.hid hown9
                have HN9 := Lib.hid n9
                clear hbf9 hlp hgm9 hnb9 hset9 hown9 n9 hgr9 hg9 hqR o5 hun
                (try go_wp2)
                go_roundw
                case rel => exact ⟨R' ++ [e], s + 1, g9, c9, m', BN, HB9.out, ⟨ext ++ [e], by rw [HEXT.out, List.append_assoc]⟩, HSN.out, by go_num, fun j hj => by
                    by_cases ej : j = s
                    · subst ej; rw [HNE.out]; exact List.mem_append.2 (.inr (by simp))
                    · exact List.mem_append.2 (.inl (HIN.out j (by omega))), by rw [HLP.out], by rw [HLP.out]; exact HO9.out, HG9.out, hgw9, HS9.out, HN9.out, HNB9.out, hi9⟩
                case measure => have := HSN.out; simp [intOf]; omega
            · obtain rfl : nl = s := by omega
              have hRR : R.getD t 0 = R'.getD t 0 := by
                rw [HEXT.out, List.getD_eq_getElem?_getD, List.getD_eq_getElem?_getD, List.getElem?_append_left (by rw [HRL.out]; exact HLT.out)]
              have hdone : Bfs n xs a R' (t + 1) := ⟨hbf.nodup, hbf.rch, hbf.has, by
                  rw [HEXT.out, List.length_append, HRL.out]; have := HLT.out; omega, fun j hj b l' h1 h2 => by
                  by_cases ej : j = t
                  · subst ej
                    rw [← hRR, HQ.out] at h1
                    have hl : l' ∈ Ns := (HMB.out l').2 ⟨b, h1, h2⟩
                    obtain ⟨k, hk, ek⟩ := List.getElem_of_mem hl
                    have := HIN.out k (by rw [HNL.out] at hk; exact hk)
                    rw [List.getD_eq_getElem?_getD, List.getElem?_eq_getElem hk, Option.getD_some, ek] at this
                    exact this
                  · exact hbf.done j (by omega) b l' h1 h2⟩
              have HD := Lib.hid hdone
              have HLE : Hid (t < 60) := Lib.hid (by omega)
              clear hdone hRR hbf
              go_wp2
              go_roundw
              case rel => exact ⟨R', t + 1, g', cp', m', HD.out, by go_num, rfl, ho, hgg, hgw', hst, hi⟩
              case measure => have := HLE.out; simp [intOf]; omega
        · have htl : t = R.length := by omega
          have hfin : Bfs n xs a R R.length := by rw [← htl]; exact hbf
          have hfe := hfin.fin HBB.out
          have hls : (R.mergeSort leI).length = R.length := List.length_mergeSort R
          rw [hfe] at hls
          have HF := Lib.hid hfe
          have HLS := Lib.hid hls
          have HOO := Lib.hid ho
          have hlt' : ¬ ((t : Int) < (R.length : Int)) := by omega
          clear hfin hfe hls hbf ho
          generalize hrl : R.length = rl at *
          clear hrl htl
          go_wp2_with fail
          refine (iSortR g g rl cp R _ (by omega) (by first | exact HOO.out | exact HOO.out.drew)).mono ?_
          rintro _ w5 ⟨rfl, o5, hg5⟩
          rw [HF.out] at o5
          have i5 : In w.heap.size w w5 := In.wide (by (repeat (first | exact In.refl _ | assumption | apply In.alloc | apply In.drewN | apply In.drew | (refine In.step ?_ (by assumption))))) (below_of_only hg5 hgw (In.size (B := w.heap.size) (a := w) (by (repeat (first | exact In.refl _ | assumption | apply In.alloc | apply In.drewN | apply In.drew | (refine In.step ?_ (by assumption)))))))
          have o6 := own_base o5 hgw
          clear o5 hg5
          go_wp2
          go_ret
          rw [HV.out]
          exact rowB_of HLS.out o6 i5.below
end Go.Proofs.Ytgjbbidcpmglbaa
