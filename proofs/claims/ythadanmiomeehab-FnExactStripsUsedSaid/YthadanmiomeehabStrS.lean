/- Chapter 32: StripsUsed of the model. -/
import Derived.Test.YthadanmiomeehabStrI
namespace Go.Proofs.Ythadanmiomeehab
open Go.ChangeShapes Go.WideShapes Go.ChangeAt Go.RowKit
set_option linter.unusedVariables false
set_option linter.unusedSimpArgs false
set_option maxHeartbeats 2000000

theorem seen_below {w w' : World} {g n B k : Nat} {os : List Int} (h : Seen w g n os k) (hb : Below B w w') (hg : g < B) : Seen w' g n os k := by
  obtain ⟨cur, hk, hs, hc⟩ := h
  exact ⟨cur, hk.below hb hg, hs, hc⟩
set_option maxRecDepth 20000 in
set_option maxHeartbeats 4000000 in
theorem sStripsUsed (A : Option Addr) (n c : Nat) (xs : List Int) (sp : Int) (B : Option Addr) (m d : Nat) (os : List Int) (w : World) (hn : n ≤ maxLen) (hx : ReadsI w A n xs) (hm : m ≤ maxLen) (hy : ReadsI w B m os) :
    Calls Try.prog 25 #[.slice A n c, .int .i64 sp, .slice B m d] w (Val (i64 (stripsV n xs sp m os)) w) := by
  obtain ⟨i0, hi0, hz0, hz1, hz2⟩ := info_parts infoB
  obtain ⟨i0', hi0', hz0', hz1', hz2'⟩ := info_parts infoI
  have hm9 : m ≤ maxLen := hm
  unfold maxLen at hm
  cases h1 : lenB n xs sp
  · have HV : Hid (stripsV n xs sp m os = -1) := Lib.hid (by simp [stripsV, stripsB, h1])
    go_enter Try.func25, Try.ntmps25
    go_wp2_with fail
    refine (sLengthsOk A n c xs sp _ hn hx).mono ?_
    rintro _ _ ⟨rfl, rfl⟩
    rw [h1]
    go_wp2
    go_ret
    exact Val.mk' (v_int HV.out.symm) (by (repeat (first | exact In.refl _ | assumption | apply In.alloc | apply In.drewN | apply In.drew | (refine In.step ?_ (by assumption)))))
  obtain ⟨n12, s1, s2, hxs⟩ := len_at h1
  have H1 := Lib.hid h1
  by_cases h2 : m = n
  rotate_left
  · have HV : Hid (stripsV n xs sp m os = -1) := Lib.hid (by simp [stripsV, stripsB, h2])
    have h2' : ((m : Int) == (n : Int)) = false := by simp; omega
    have h2'' : ((m : Int) != (n : Int)) = true := by simp; omega
    go_enter Try.func25, Try.ntmps25
    go_wp2_with fail
    refine (sLengthsOk A n c xs sp _ hn hx).mono ?_
    rintro _ _ ⟨rfl, rfl⟩
    rw [H1.out]
    go_wp2
    go_ret
    exact Val.mk' (v_int HV.out.symm) (by (repeat (first | exact In.refl _ | assumption | apply In.alloc | apply In.drewN | apply In.drew | (refine In.step ?_ (by assumption)))))
  subst h2
  obtain ⟨n, rfl⟩ : ∃ n, m = n := ⟨m, rfl⟩
  have HVT : Hid (allOk (ordOk m os) m = true → stripsV m xs sp m os = ((cutTo sp xs os m).length : Int)) := Lib.hid (fun h => by
    simp only [stripsV, stripsB, H1.out, h]; simp)
  have HVF : Hid (∀ k, k < m → ordOk m os k = false → stripsV m xs sp m os = -1) := Lib.hid (fun k hk h => by
    simp only [stripsV, stripsB, allOk_f _ _ k hk h]; simp)
  have HXS := Lib.hid hxs
  have HX := Lib.hid hx
  have HY := Lib.hid hy
  clear hxs h1
  go_enter Try.func25, Try.ntmps25
  go_wp2_with fail
  refine (sLengthsOk A m c xs sp _ hn hx).mono ?_
  rintro _ _ ⟨rfl, rfl⟩
  rw [H1.out]
  clear hx hy
  go_wp2_with (at_make; refine wpList_make_full _ rfl (.tmp 23) (.tmp 23) 58 rfl w.heap.size 4 i0 (.bool false) 1 Try.underlying58 hi0 hz0 hz1 .i64 .i64 (m : Int) (m : Int) m rfl rfl rfl rfl ?h2 ?h3 ?h4 ?_)
  case h2 => rw [hz2]; omega
  case h3 => unfold maxLen; omega
  case h4 => exact Nat.le_refl _
  intro w1 hown0 hgrow0
  have hb0 : Below w.heap.size w w1 := (Below.refl _ _).grown hgrow0 (Nat.le_refl _) (fun j hj => by cases hj)
  have hse0 : Seen w1 w.heap.size m os 0 := seen_made os (by rw [toList_madeCells_one] at hown0; exact hown0)
  have hse : Seen (w1.alloc (.cells #[] 3)) w.heap.size m os 0 := by
    have hl : w.heap.size < w1.heap.size := by obtain ⟨cur, hk, _⟩ := hse0; exact hk.lt
    exact seen_below hse0 ((Below.refl _ w1).alloc (Nat.le_refl _) _) hl
  have hsl : w.heap.size < w1.heap.size := by obtain ⟨cur, hk, _⟩ := hse0; exact hk.lt
  have i1 : In w.heap.size w (w1.alloc (.cells #[] 3)) := In.alloc ⟨hb0, hb0.size⟩ _
  have hlit := own_lit w1 3 #[] 0 w1.heap.size rfl (Nat.le_refl _) (by unfold maxLen; omega)
  obtain ⟨B1, hB1⟩ : ∃ B1, B1 = w1.heap.size := ⟨_, rfl⟩
  obtain ⟨sb, hsb⟩ : ∃ sb, sb = w.heap.size := ⟨_, rfl⟩
  have hwB : w.heap.size ≤ B1 := by omega
  have hsB : sb < B1 := by omega
  have hsw : w.heap.size ≤ sb := by omega
  have hBw : B1 ≤ (w1.alloc (.cells #[] 3)).heap.size := by simp; omega
  rw [← hB1] at hlit
  rw [← hsb] at hse ⊢
  clear hgrow0 hown0 hb0 hse0 hsl hsb
  go_wp2
  rw [← hB1]
  generalize (w1.alloc (.cells #[] 3)) = w2 at *
  clear hB1
  go_loopw [8, 9] (fun v i wr => ∃ k : Nat, k ≤ m ∧ i = .int .i64 k ∧ wr.ownsRow B1 3 1 v (cutTo sp xs os k).length (iv (cutTo sp xs os k)) ∧ (∀ i, i < k → ordOk m os i = true) ∧ Seen wr sb m os k ∧ In w.heap.size w wr ∧ B1 ≤ wr.heap.size) (fun _ i _ => m - (intOf i).toNat)
  case atStart => exact ⟨0, Nat.zero_le _, rfl, hlit, fun i hi => absurd hi (Nat.not_lt_zero _), hse, i1, hBw⟩
  case round =>
    clear hse i1 hlit hBw
    obtain ⟨k, hk, rfl, hown, ho, hse, hi, hBr⟩ := hrel
    obtain ⟨A1, c1, rfl⟩ := own_shape_i hown
    have HO := Lib.hid ho
    clear ho
    by_cases hlt : k < m
    · obtain ⟨a, rfl, ca⟩ := (HY.out.below hi.below (Nat.le_refl _)).2 k hlt
      have HK : Hid (ordOk m os k = (inB (os.getD k 0) 0 ((m : Int) - 1) && !(seenB os k (os.getD k 0)))) := Lib.hid rfl
      have HSET := Lib.hid (fun t ht hn => Seen.set_ hse t ht hn)
      have HCUT : Hid (∀ t : Nat, os.getD k 0 = t → cutTo sp xs os (k + 1) = stpL sp (xs.getD t 0) (cutTo sp xs os k)) := Lib.hid (fun t h => by rw [cutTo, h, Int.toNat_natCast])
      have HCA : Hid ((∀ i, i < k → 0 ≤ os.getD i 0 ∧ os.getD i 0 < (m : Int)) → allB sp (cutTo sp xs os k) ∧ (cutTo sp xs os k).length ≤ k) := Lib.hid (fun h => cut_all m HXS.out k h k (Nat.le_refl _))
      obtain ⟨hall, hlen⟩ := HCA.out (fun i hi => by
        have := HO.out i hi
        simp only [ordOk, Bool.and_eq_true] at this
        have := inB_tt this.1
        omega)
      have HAG := Lib.hid (fun j => all_getD hall (by omega) j)
      generalize hoo : os.getD k 0 = x at ca HK HSET HCUT
      have HX0 := Lib.hid hoo
      generalize cutTo sp xs os k = L at *
      generalize hM0 : L.length = M at *
      have HM := Lib.hid hM0
      clear hoo hM0 hall HCA
      cases hI : inB x 0 ((m : Int) - 1)
      · have HF := Lib.hid (HVF.out k hlt (by rw [HK.out, hI]; rfl))
        go_wp2_with (first | (go_at_call 46; refine (sIn _ _ _ _).mono ?_; rintro e w' ⟨rfl, rfl⟩) | (go_at_call 56; refine (iIn _ _ _ _).mono ?_; rintro e w' ⟨rfl, rfl⟩) | go_in | (go_end0; simp only []; go_at_K))
        go_ret
        exact Val.mk' (v_int HF.out.symm) (by (repeat (first | exact In.refl _ | assumption | apply In.alloc | apply In.drewN | apply In.drew | (refine In.step ?_ (by assumption)))))
      obtain ⟨x1, x2⟩ := inB_tt hI
      obtain ⟨t, rfl⟩ : ∃ t : Nat, x = t := ⟨x.toNat, by omega⟩
      have htm : t < m := by omega
      have ct := hse.cell t (by omega)
      have ft := hse.free t
      cases hB : seenB os k t
      · have HT : Hid (ordOk m os k = true) := Lib.hid (by rw [HK.out, hI, hB]; rfl)
        rw [hB] at ct
        have hst := HSET.out t rfl htm
        have hi2 : In w.heap.size w (wr.setCell ⟨sb, t, none⟩ (.bool true)) := hi.set_ (p := ⟨sb, t, none⟩) hsw _
        have own2 : (wr.setCell ⟨sb, t, none⟩ (.bool true)).ownsRow B1 3 1 (.slice A1 M c1) M (iv L) := own_only hown (only_set _ _) hsB
        have hB2 : B1 ≤ (wr.setCell ⟨sb, t, none⟩ (.bool true)).heap.size := by simpa [World.setCell] using hBr
        obtain ⟨b, rfl, cb⟩ := (HX.out.below hi.below (Nat.le_refl _)).2 t htm
        have hln := HXS.out t htm
        have HST := Lib.hid (HCUT.out t rfl)
        obtain ⟨ln, hl⟩ : ∃ ln, xs.getD t 0 = ln := ⟨_, rfl⟩
        have HBT : Hid (∀ W, In w.heap.size w W → W.cell? (b.add t) = some (.int .i64 ln)) := Lib.hid (fun W h => by
          obtain ⟨b', hb', h9⟩ := (HX.out.below h.below (Nat.le_refl _)).2 t htm
          injection hb' with hb'
          subst hb'
          rw [hl] at h9
          exact h9)
        rw [hl] at cb hln HST
        clear hse hown hi hl HCUT HSET
        go_wp2_with (first | (go_at_call 46; refine (sIn _ _ _ _).mono ?_; rintro e w' ⟨rfl, rfl⟩) | (go_at_call 56; refine (iIn _ _ _ _).mono ?_; rintro e w' ⟨rfl, rfl⟩))
        generalize (wr.setCell ⟨sb, t, none⟩ (.bool true)) = w8 at *
        go_loopw [10] (fun a wr2 => ∃ j : Nat, j ≤ M ∧ a = .int .i64 j ∧ (∀ i, i < j → fitP ln L i = false) ∧ In w8.heap.size w8 wr2) (fun a _ => M - (intOf a).toNat)
        case atStart => exact ⟨0, Nat.zero_le _, rfl, fun i hi => absurd hi (Nat.not_lt_zero _), In.refl _⟩
        case round =>
          obtain ⟨j, hj, rfl, hnf, hi3⟩ := hrel
          have HNF := Lib.hid hnf
          have i4 : In w.heap.size w wr := hi2.trans hi3
          have own4 := own_step own2 hi3.below
          have se4 : Seen wr sb m os (k + 1) := seen_below hst (hi3.below.mono hB2) hsB
          have hB4 : B1 ≤ wr.heap.size := Nat.le_trans hB2 hi3.size
          obtain ⟨q4, hq4', hq4⟩ := (HY.out.below i4.below (Nat.le_refl _)).2 k hlt
          injection hq4' with hq4'
          subst hq4'
          rw [HX0.out] at hq4
          have hb4 := HBT.out wr i4
          clear hnf
          by_cases hjM : j < M
          · obtain ⟨g, cap, hv, hgB, hg9⟩ := own4.form (by omega)
            injection hv with hv1 hv2 hv3
            subst hv1 hv3
            have cj : wr.cell? ⟨g, j, none⟩ = some (.int .i64 (L.getD j 0)) := by
              rw [own4.cellAt j (by omega), iv_at _ j (by rw [HM.out]; exact hjM)]
            have hag := HAG.out j
            have HFIT : Hid (fitP ln L j = decide (ln ≤ L.getD j 0)) := Lib.hid rfl
            have hj0 : decide ((j : Int) < (M : Int)) = true := decide_eq_true (by omega)
            by_cases hyl : L.getD j 0 < ln
            · have HN : Hid (fitP ln L j = false) := Lib.hid (by rw [HFIT.out]; exact decide_eq_false (by omega))
              have hd : decide (L.getD j 0 < ln) = true := decide_eq_true hyl
              generalize L.getD j 0 = y at *
              clear own4 se4 i4
              go_wp2
              go_quiet (fail)
              go_wp2
              go_roundw
              case rel => exact ⟨j + 1, by omega, by go_num, fun i hi => by
                  by_cases e : i = j
                  · subst e; exact HN.out
                  · exact HNF.out i (by omega), by (repeat (first | exact In.refl _ | assumption | apply In.alloc | apply In.drewN | apply In.drew | (refine In.step ?_ (by assumption))))⟩
              case measure => simp [intOf]; omega
            · have hd : decide (L.getD j 0 < ln) = false := decide_eq_false hyl
              have hf : fstP (fitP ln L) M = j := fstP_at hjM HNF.out (by rw [HFIT.out]; exact decide_eq_true (by omega))
              have HS2 : Hid (cutTo sp xs os (k + 1) = L.set j (L.getD j 0 - ln)) := Lib.hid (by rw [HST.out]; exact stp_at (by rw [HM.out, hf]))
              have hst2 := fun q => ((own_step own4 (below_drewN (Below.refl wr.heap.size wr) q)).stored j (.int .i64 (L.getD j 0 - ln))).1
              have hjne : ((j : Int) == (M : Int)) = false := by simp; omega
              have hw64 : IntKind.i64.wrap (L.getD j 0 - ln) = L.getD j 0 - ln := IntWalk.i64_in _ (by omega)
              have hw65 : wrap64 (L.getD j 0 - ln) = L.getD j 0 - ln := w64 (by omega)
              have fj := own4.frozenAt j
              obtain ⟨y, hyy⟩ : ∃ y, L.getD j 0 = y := ⟨_, rfl⟩
              rw [hyy] at cj hag hd HS2 hst2 hw64 hw65
              clear hf hyy
              go_wp2
              go_quiet (fail)
              have own5 := own_step own4 (below_drewN (Below.refl wr.heap.size wr) nq)
              have se5 : Seen (wr.drewN nq) sb m os (k + 1) := seen_below se4 (below_drewN (Below.refl B1 wr) nq) hsB
              have i5 : In w.heap.size w (wr.drewN nq) := i4.drewN nq
              have hB5 : B1 ≤ (wr.drewN nq).heap.size := hB4
              have hq5 : (wr.drewN nq).cell? (a.add k) = some (.int .i64 (t : Int)) := hq4
              have hb5 : (wr.drewN nq).cell? (b.add t) = some (.int .i64 ln) := hb4
              have cj5 : (wr.drewN nq).cell? ⟨g, j, none⟩ = some (.int .i64 y) := cj
              have fj5 : (wr.drewN nq).frozen? ⟨g, j, none⟩ = false := fj
              have hst5 := hst2 nq
              clear hst2 own4 se4 i4 hB4 hq4 hb4 cj fj
              generalize wr.drewN nq = wq at *
              rw [← iv_set] at hst5
              have HO9 : Hid ((wq.setCell ⟨g, j, none⟩ (.int .i64 (y - ln))).drew.ownsRow B1 3 1 (.slice (some ⟨g, 0, none⟩) M c1) (cutTo sp xs os (k + 1)).length (iv (cutTo sp xs os (k + 1)))) := Lib.hid (by
                rw [HS2.out, List.length_set, HM.out]
                exact own_step hst5 (Below.refl _ _).drew)
              have i10 : In w.heap.size w (wq.setCell ⟨g, j, none⟩ (.int .i64 (y - ln))).drew := (i5.set_ (p := ⟨g, j, none⟩) (by show w.heap.size ≤ g; omega) _).drew
              have HSE : Hid (Seen (wq.setCell ⟨g, j, none⟩ (.int .i64 (y - ln))).drew sb m os (k + 1)) := Lib.hid (seen_below (seen_below se5 ((Below.refl B1 wq).setCell (p := ⟨g, j, none⟩) hgB _) hsB) (Below.refl B1 _).drew hsB)
              have hB10 : B1 ≤ (wq.setCell ⟨g, j, none⟩ (.int .i64 (y - ln))).drew.heap.size := by simpa [World.setCell] using hB5
              have HB10 := Lib.hid hB10
              have HI10 := Lib.hid i10
              clear hst5 own5 se5 i5 hB10 i10 hst own2 hi2 hi3 hB2
              go_wp2
              go_region
              go_wp2
              go_roundw
              case rel => exact ⟨k + 1, by omega, by go_num, HO9.out, fun i hi => by
                  by_cases e : i = k
                  · subst e; exact HT.out
                  · exact HO.out i (by omega), HSE.out, HI10.out, HB10.out⟩
              case measure => simp [intOf]; omega
          · obtain rfl : j = M := by omega
            have hf : fstP (fitP ln L) j = -1 := fstP_no HNF.out
            have HS2 : Hid (cutTo sp xs os (k + 1) = L ++ [sp - ln]) := Lib.hid (by rw [HST.out]; exact stp_no (by rw [HM.out, hf]; omega))
            have hj0 : decide ((j : Int) < (j : Int)) = false := decide_eq_false (by omega)
            have hge := own_ge own4
            have hM6 : j + 1 ≤ 1000000 := by omega
            clear hf
            go_wp2
            go_quiet (fail)
            have own5 := own_step own4 (below_drewN (Below.refl wr.heap.size wr) nq)
            have se5 : Seen (wr.drewN nq) sb m os (k + 1) := seen_below se4 (below_drewN (Below.refl B1 wr) nq) hsB
            have i5 : In w.heap.size w (wr.drewN nq) := i4.drewN nq
            have hB5 : B1 ≤ (wr.drewN nq).heap.size := hB4
            have hq5 : (wr.drewN nq).cell? (a.add k) = some (.int .i64 (t : Int)) := hq4
            have hb5 : (wr.drewN nq).cell? (b.add t) = some (.int .i64 ln) := hb4
            clear own4 se4 i4 hB4 hq4 hb4
            generalize wr.drewN nq = wq at *
            go_wp2_with (first | (go_at_call 46; refine (sIn _ _ _ _).mono ?_; rintro e w' ⟨rfl, rfl⟩) | (go_at_call 56; refine (iIn _ _ _ _).mono ?_; rintro e w' ⟨rfl, rfl⟩) | (at_builtin; refine wpList_app3 wq rfl (.tmp 80) (.tmp 82) 22 rfl B1 i0' (.int .i64 0) Try.underlying22 hi0' hz0' hz1' hz2' rfl (.slice A1 j c1) j L rfl own5 sp rfl hM6 hB5 ?_; intro v9 w9 hown9 hgr9))
            obtain ⟨g, cap, rfl, hgB, hg9⟩ := hown9.form (by omega)
            have hbw : Below B1 wq w9 := below_of_own hgr9 hge hB5
            have i9 : In w.heap.size w w9 := i5.wide (hbw.mono hwB)
            have se9 : Seen w9 sb m os (k + 1) := seen_below se5 hbw hsB
            have hB9 : B1 ≤ w9.heap.size := Nat.le_trans hB5 hgr9.size
            obtain ⟨q9, hq9', hq9⟩ := (HY.out.below i9.below (Nat.le_refl _)).2 k hlt
            injection hq9' with hq9'
            subst hq9'
            rw [HX0.out] at hq9
            have hb9 := HBT.out w9 i9
            have cM : w9.cell? ⟨g, j, none⟩ = some (.int .i64 sp) := by
              rw [hown9.cellAt j (by omega), iv_at _ j (by rw [List.length_append, HM.out]; simp)]
              have : (L ++ [sp]).getD j 0 = sp := by rw [← HM.out]; simp
              rw [this]
            have fM := hown9.frozenAt j
            have hst9 := (hown9.stored j (.int .i64 (sp - ln))).1
            rw [← iv_set, set_last L sp (sp - ln) j HM.out] at hst9
            have HO9 : Hid ((w9.setCell ⟨g, j, none⟩ (.int .i64 (sp - ln))).drew.ownsRow B1 3 1 (.slice (some ⟨g, 0, none⟩) (j + 1) cap) (cutTo sp xs os (k + 1)).length (iv (cutTo sp xs os (k + 1)))) := Lib.hid (by
              rw [HS2.out, List.length_append, HM.out]
              exact own_step hst9 (Below.refl _ _).drew)
            have i10 : In w.heap.size w (w9.setCell ⟨g, j, none⟩ (.int .i64 (sp - ln))).drew := (i9.set_ (p := ⟨g, j, none⟩) (by show w.heap.size ≤ g; omega) _).drew
            have HSE : Hid (Seen (w9.setCell ⟨g, j, none⟩ (.int .i64 (sp - ln))).drew sb m os (k + 1)) := Lib.hid (seen_below (seen_below se9 ((Below.refl B1 w9).setCell (p := ⟨g, j, none⟩) hgB _) hsB) (Below.refl B1 _).drew hsB)
            have hB10 : B1 ≤ (w9.setCell ⟨g, j, none⟩ (.int .i64 (sp - ln))).drew.heap.size := by simpa [World.setCell] using hB9
            have hw64 : IntKind.i64.wrap (sp - ln) = sp - ln := IntWalk.i64_in _ (by omega)
            have hw65 : wrap64 (sp - ln) = sp - ln := w64 (by omega)
            have HB10 := Lib.hid hB10
            have HI10 := Lib.hid i10
            clear hst9 hown9 hgr9 hbw own5 se5 i5 hge se9 i9 hB10 i10 hst own2 hi2 hi3 hB2
            go_region
            go_wp2
            go_roundw
            case rel => exact ⟨k + 1, by omega, by go_num, HO9.out, fun i hi => by
                by_cases e : i = k
                · subst e; exact HT.out
                · exact HO.out i (by omega), HSE.out, HI10.out, HB10.out⟩
            case measure => simp [intOf]; omega
      · have HF := Lib.hid (HVF.out k hlt (by rw [HK.out, hI, hB]; rfl))
        rw [hB] at ct
        go_wp2_with (first | (go_at_call 46; refine (sIn _ _ _ _).mono ?_; rintro e w' ⟨rfl, rfl⟩) | (go_at_call 56; refine (iIn _ _ _ _).mono ?_; rintro e w' ⟨rfl, rfl⟩) | go_in | (go_end0; simp only []; go_at_K))
        go_ret
        exact Val.mk' (v_int HF.out.symm) (by (repeat (first | exact In.refl _ | assumption | apply In.alloc | apply In.drewN | apply In.drew | (refine In.step ?_ (by assumption)))))
    · obtain rfl : k = m := by omega
      go_wp2
      go_ret
      exact Val.mk' (v_int (HVT.out (allOk_t _ _ HO.out)).symm) (by (repeat (first | exact In.refl _ | assumption | apply In.alloc | apply In.drewN | apply In.drew | (refine In.step ?_ (by assumption)))))
end Go.Proofs.Ythadanmiomeehab
