/- Chapter 27: CheapestTwo, the model. -/
import Derived.Test.YtmkfnhgaiheckaaW27
import Derived.Test.YtmkfnhgaiheckaaOwnM
namespace Go.Proofs.Ytmkfnhgaiheckaa
open Go.ChangeShapes Go.WideShapes Go.ChangeAt Go.RowKit
set_option linter.unusedVariables false
set_option linter.unusedSimpArgs false
set_option maxHeartbeats 2000000

set_option maxHeartbeats 16000000 in
set_option maxRecDepth 20000 in
theorem sCheapestTwo (A : Option Addr) (n c : Nat) (xs : List FlourR) (T L : Int) (w : World) (hn : n ≤ maxLen) (hx : ReadsFlour w A n xs) : Calls Try.prog 25 #[.slice A n c, .int .i64 T, .int .i64 L] w (Val (twoT n xs T L) w) := by
  cases hB : floursB n xs
  · have HV := Lib.hid (twoT_f (n := n) (xs := xs) (T := T) (L := L) (by simp [twoB, hB]))
    go_enter Try.func25, Try.ntmps25
    go_wp2_with (go_at_call 101; (with_reducible refine (sFloursOk A n c xs _ hn hx).mono ?_); rintro _ w1 ⟨rfl, hb1⟩; rw [hB])
    exact bodyPost_ret (v := .tuple #[i64 0, i64 0, i64 0, .bool false]) (by simp [results, Try.results25, go_sem]) rfl (Val.mk' (by rw [HV.out]) (by (repeat (first | exact In.refl _ | assumption | apply In.alloc | apply In.drewN | apply In.drew | (refine In.step ?_ (by assumption))))))
  cases h1 : inB T 1 100
  · have HV := Lib.hid (twoT_f (n := n) (xs := xs) (T := T) (L := L) (by simp [twoB, h1]))
    go_enter Try.func25, Try.ntmps25
    go_wp2_with (first | (go_at_call 101; (with_reducible refine (sFloursOk A n c xs _ hn hx).mono ?_); rintro _ w1 ⟨rfl, hb1⟩; rw [hB]) | (go_at_call 95; first | ((with_reducible refine (sInE h1 _).mono ?_); rintro e w' ⟨rfl, rfl⟩) | ((with_reducible refine (sInE h2 _).mono ?_); rintro e w' ⟨rfl, rfl⟩)))
    exact bodyPost_ret (v := .tuple #[i64 0, i64 0, i64 0, .bool false]) (by simp [results, Try.results25, go_sem]) rfl (Val.mk' (by rw [HV.out]) (by (repeat (first | exact In.refl _ | assumption | apply In.alloc | apply In.drewN | apply In.drew | (refine In.step ?_ (by assumption))))))
  cases h2 : inB L 50 500
  · have HV := Lib.hid (twoT_f (n := n) (xs := xs) (T := T) (L := L) (by simp [twoB, h2]))
    go_enter Try.func25, Try.ntmps25
    go_wp2_with (first | (go_at_call 101; (with_reducible refine (sFloursOk A n c xs _ hn hx).mono ?_); rintro _ w1 ⟨rfl, hb1⟩; rw [hB]) | (go_at_call 95; first | ((with_reducible refine (sInE h1 _).mono ?_); rintro e w' ⟨rfl, rfl⟩) | ((with_reducible refine (sInE h2 _).mono ?_); rintro e w' ⟨rfl, rfl⟩)))
    exact bodyPost_ret (v := .tuple #[i64 0, i64 0, i64 0, .bool false]) (by simp [results, Try.results25, go_sem]) rfl (Val.mk' (by rw [HV.out]) (by (repeat (first | exact In.refl _ | assumption | apply In.alloc | apply In.drewN | apply In.drew | (refine In.step ?_ (by assumption))))))
  have HV := Lib.hid (twoT_t (n := n) (xs := xs) (T := T) (L := L) (by simp [twoB, hB, h1, h2]))
  obtain ⟨t1, t2⟩ := inB_tt h1
  obtain ⟨l1, l2⟩ := inB_tt h2
  obtain ⟨n1, n5, hs⟩ := flours_at hB
  have HS := Lib.hid hs
  have HAS := Lib.hid (allT_s xs T L n)
  have HRS := Lib.hid (rowT_s xs T L)
  have HR0 : Hid (∀ i s, rowT xs T L i s 0 = s) := Lib.hid fun i s => rfl
  have HA0 : Hid (allT xs T L n 0 = none) := Lib.hid rfl
  have HAI := Lib.hid (fun i (hi : i ≤ n) => allT_in hs t2 (L := L) i hi)
  have HRI := Lib.hid (fun i s (h : TwoIn s) j (hj : i + 1 + j ≤ n) => rowT_in hs t2 (L := L) h j hj)
  have HPI := Lib.hid (fun i k (hi : i < n) (hk : k < n) m => pairO_in (L := L) (hs i hi) (hs k hk) t2 m)
  clear hs
  go_enter Try.func25, Try.ntmps25
  go_wp2_with (first | (go_at_call 101; (with_reducible refine (sFloursOk A n c xs _ hn hx).mono ?_); rintro _ w1 ⟨rfl, hb1⟩; rw [hB]) | (go_at_call 95; first | ((with_reducible refine (sInE h1 _).mono ?_); rintro e w' ⟨rfl, rfl⟩) | ((with_reducible refine (sInE h2 _).mono ?_); rintro e w' ⟨rfl, rfl⟩)))
  have i1 : In w.heap.size w w1 := In.step (by (repeat (first | exact In.refl _ | assumption | apply In.alloc | apply In.drewN | apply In.drew | (refine In.step ?_ (by assumption))))) hb1
  clear hb1 h1 h2
  obtain ⟨i0, hi0, hz0, hz1, hz2⟩ := info_parts infoN
  obtain ⟨M, hM⟩ : ∃ M : Nat, T = (M : Int) := ⟨T.toNat, by omega⟩
  have HM := Lib.hid hM
  have htn : T.toNat = M := by omega
  rw [htn] at HRS
  clear htn hM
  have HB := Lib.hid hB
  clear hB
  have hnm : (n : Int) ≤ 5 := by omega
  go_wp2
  go_loopw [10, 11, 12, 13, 14, 15, 16] (fun a b c d i _k _n wr => ∃ p : Nat, p ≤ n ∧ i = .int .i64 p ∧ a = .int .i64 (tI (allT xs T L n p)) ∧ b = .int .i64 (tK (allT xs T L n p)) ∧ c = .int .i64 (tN (allT xs T L n p)) ∧ d = .int .i64 (tC (-1) (allT xs T L n p)) ∧ (In w.heap.size w wr)) (fun _ _ _ _ i _ _ _ => n - (intOf i).toNat)
  case atStart => exact ⟨0, Nat.zero_le _, rfl, by rw [HA0.out]; rfl, by rw [HA0.out]; rfl, by rw [HA0.out]; rfl, by rw [HA0.out]; rfl, i1⟩
  case round =>
    obtain ⟨p, hp, rfl, rfl, rfl, rfl, rfl, f1_0⟩ := hrel
    clear i1
    by_cases hlt : p < n
    · skip
      obtain ⟨w8, hq9⟩ : ∃ q, q = wr := ⟨_, rfl⟩
      subst hq9
      have HAN := Lib.hid (HAS.out p)
      have HRR := Lib.hid (fun j => HRS.out p (allT xs T L n p) j)
      have HR1 := Lib.hid (HR0.out p (allT xs T L n p))
      have HRT := Lib.hid (fun j (hj : p + 1 + j ≤ n) => HRI.out p (allT xs T L n p) (HAI.out p hp) j hj)
      generalize rowT xs T L p (allT xs T L n p) = RT at *
      rw [← HR1.out]
      clear HR1
      have hp5 : (p : Int) ≤ 5 := by omega
      have HP1 : Hid ((p : Int) + 1 = ((p + 1 + 0 : Nat) : Int)) := Lib.hid (by omega)
      go_wp2
      go_loopw [10, 11, 12, 13, 15, 16] (fun a b c d i _n wr => ∃ j : Nat, p + 1 + j ≤ n ∧ i = .int .i64 ((p + 1 + j : Nat) : Int) ∧ a = .int .i64 (tI (RT j)) ∧ b = .int .i64 (tK (RT j)) ∧ c = .int .i64 (tN (RT j)) ∧ d = .int .i64 (tC (-1) (RT j)) ∧ (In w.heap.size w wr)) (fun _ _ _ _ i _ _ => n - (intOf i).toNat)
      case atStart => exact ⟨0, by omega, by rw [← HP1.out], rfl, rfl, rfl, rfl, f1_0⟩
      case round =>
        obtain ⟨j, hj, rfl, rfl, rfl, rfl, rfl, f2_0⟩ := hrel
        clear f1_0
        have HJ := Lib.hid (HRR.out j)
        obtain ⟨q, hq⟩ : ∃ q : Nat, p + 1 + j = q := ⟨_, rfl⟩
        have HTI := Lib.hid (HRT.out j hj)
        rw [hq] at HJ hj ⊢
        have HQ := Lib.hid hq
        clear hq
        by_cases hlq : q < n
        · skip
          obtain ⟨w7, hq9⟩ : ∃ q, q = wr := ⟨_, rfl⟩
          subst hq9
          have hlqi : (q : Int) < (n : Int) := by omega
          have hq5 : (q : Int) ≤ 5 := by omega
          have hpq : p < q := by have := HQ.out; omega
          have HPQ := Lib.hid hpq
          have HOKN := Lib.hid (fun x => two_ok (xs := xs) (T := T) (L := L) (x := x) hpq hlq HB.out t1 l1)
          have HCON := Lib.hid (fun x h => two_cost (xs := xs) (T := T) (L := L) (x := x) hpq hlq HB.out h)
          have HPO := Lib.hid (fun m => HPI.out p q hlt hlq m)
          have HPT := Lib.hid (fun m h => pairO_t (a := xs.getD p z27) (b := xs.getD q z27) (T := T) (L := L) (n := m) h)
          have HPF := Lib.hid (fun m h => pairO_f (a := xs.getD p z27) (b := xs.getD q z27) (T := T) (L := L) (n := m) h)
          have HP0 : Hid (pairO (xs.getD p z27) (xs.getD q z27) T L 0 = none) := Lib.hid rfl
          have HCI := Lib.hid (fun (x : Int) h => (show okN (xs.getD p z27) (xs.getD q z27) T L x = true → 0 ≤ costN (xs.getD p z27) (xs.getD q z27) T x ∧ costN (xs.getD p z27) (xs.getD q z27) T x ≤ 20000 from fun ho => costN_in (HS.out p hlt) (HS.out q hlq) (okN_in ho).1 (okN_in ho).2.2.1 t2) h)
          generalize hPO : pairO (xs.getD p z27) (xs.getD q z27) T L = PO at *
          generalize hKO : okN (xs.getD p z27) (xs.getD q z27) T L = KO at *
          generalize hCO : costN (xs.getD p z27) (xs.getD q z27) T = CO at *
          clear hPO hKO hCO
          have HMR : Hid (tMrg (RT j) p q (PO 0) = RT j) := Lib.hid (by rw [HP0.out]; rfl)
          rw [← HMR.out]
          clear HMR HP0 hpq
          go_wp2
          go_loopw [10, 11, 12, 13, 16] (fun a b c d i wr => ∃ m : Nat, m ≤ M + 1 ∧ i = .int .i64 m ∧ a = .int .i64 (tI (tMrg (RT j) p q (PO m))) ∧ b = .int .i64 (tK (tMrg (RT j) p q (PO m))) ∧ c = .int .i64 (tN (tMrg (RT j) p q (PO m))) ∧ d = .int .i64 (tC (-1) (tMrg (RT j) p q (PO m))) ∧ (In w.heap.size w wr)) (fun _ _ _ _ i _ => M + 1 - (intOf i).toNat)
          case atStart => exact ⟨0, Nat.zero_le _, rfl, rfl, rfl, rfl, rfl, f2_0⟩
          case round =>
            obtain ⟨m, hm, rfl, rfl, rfl, rfl, rfl, f3_0⟩ := hrel
            clear f2_0
            have HSI := Lib.hid (HTI.out.mrg (i := p) (k := q) (HPO.out m))
            by_cases hmT : (m : Int) ≤ T
            · skip
              have hUP := Lib.hid (fun cc => tMrg_up (RT j) p q m cc (PO m))
              have HPT9 := Lib.hid (HPT.out m)
              have HPF9 := Lib.hid (HPF.out m)
              have HOK9 := HOKN.out (m : Int)
              have HCO9 := HCON.out (m : Int)
              have HCI9 := HCI.out (m : Int)
              have hm9 : (m : Int) ≤ 100 := by omega
              obtain ⟨s9, hs9⟩ : ∃ s, tMrg (RT j) p q (PO m) = s := ⟨_, rfl⟩
              rw [hs9] at HSI hUP ⊢
              have HS9 := Lib.hid hs9
              clear hs9
              go_wp2_with (at_make; refine wpList_make_full _ rfl (.tmp 52) (.tmp 52) 43 rfl wr.heap.size 3 i0 (.int .i64 0) 1 Try.underlying43 hi0 hz0 hz1 .i64 .i64 (n : Int) (n : Int) n rfl rfl rfl rfl ?h2 ?h3 ?h4 ?_)
              case h2 => rw [hz2]; omega
              case h3 => unfold maxLen; omega
              case h4 => exact Nat.le_refl _
              intro w2 hown0 hgrow0
              have hb0 : Below wr.heap.size wr w2 := (Below.refl _ _).grown hgrow0 (Nat.le_refl _) (fun j hj => by cases hj)
              have hwa : Ways w2 wr.heap.size n (fun _ => 0) := ways_made (by rw [toList_madeCells_one] at hown0; exact hown0)
              have i2 : In w.heap.size w w2 := f3_0.step hb0
              have HG0 : Hid (w.heap.size ≤ wr.heap.size) := Lib.hid f3_0.size
              clear hown0 hgrow0 hb0 f3_0
              obtain ⟨g, hg⟩ : ∃ g, g = wr.heap.size := ⟨_, rfl⟩
              rw [← hg] at hwa HG0 ⊢
              clear hg
              have k1 := hwa.cell p hlt
              have z1 := hwa.free p
              have wa2 : Ways (w2.setCell ⟨g, p, none⟩ (.int .i64 (m : Int))) g n (fun u => if u = p then (m : Int) else 0) := hwa.set_ p _ _ (if_pos rfl) (fun u hu => if_neg hu) hlt
              have k2 := wa2.cell q hlq
              have z2 := wa2.free q
              have hqp : (if q = p then (m : Int) else 0) = 0 := if_neg (by have := HPQ.out; omega)
              rw [hqp] at k2
              clear hqp
              have wa3 : Ways ((w2.setCell ⟨g, p, none⟩ (.int .i64 (m : Int))).setCell ⟨g, q, none⟩ (.int .i64 (T - (m : Int)))) g n (twoF p q m (T - m)) := wa2.set_ q _ _ (twoF_q HPQ.out) (fun u hu => twoF_step hu) hlq
              have i3 : In w.heap.size w ((w2.setCell ⟨g, p, none⟩ (.int .i64 (m : Int))).setCell ⟨g, q, none⟩ (.int .i64 (T - (m : Int)))) := (i2.set_ (p := ⟨g, p, none⟩) HG0.out _).set_ (p := ⟨g, q, none⟩) HG0.out _
              have HR3 := Lib.hid wa3.reads
              have HI3 := Lib.hid i3
              clear wa2 wa3 hwa i2 i3
              go_wp2_with fail
              obtain ⟨w3, hq9⟩ : ∃ W9, W9 = ((w2.setCell ⟨g, p, none⟩ (.int .i64 (m : Int))).setCell ⟨g, q, none⟩ (.int .i64 (T - (m : Int)))) := ⟨_, rfl⟩
              rw [← hq9] at HR3 HI3 ⊢
              clear hq9 k1 z1 k2 z2
              refine (sStrengthOf A n _ xs (some ⟨g, 0, none⟩) n _ (twoL n p q m (T - m)) _ hn (hx.in_ HI3.out) hn HR3.out).mono ?_
              rintro _ w4 ⟨rfl, hb4⟩
              have i4 := HI3.out.step hb4
              have HR4 := Lib.hid (HR3.out.step hb4)
              clear HR3 HI3 hb4
              obtain ⟨sv, hsv⟩ : ∃ v, strengthV n xs n (twoL n p q m (T - m)) = v := ⟨_, rfl⟩
              rw [hsv] at HOK9 ⊢
              clear hsv
              cases hko : KO (m : Int)
              · skip
                have hlt9 : sv < L := HOK9.2 hko
                have HN : Hid (tMrg (RT j) p q (PO (m + 1)) = s9) := Lib.hid (by rw [HPF9.out hko, HS9.out])
                clear HOK9 HCO9 HCI9 hko
                go_wp2
                go_roundw
                case rel => exact ⟨m + 1, by have := HM.out; omega, by go_num, by rw [HN.out], by rw [HN.out], by rw [HN.out], by rw [HN.out], i4⟩
                case measure => have := HM.out; simp [intOf]; omega
              · skip
                have hlt9 : ¬ sv < L := fun h => by
                  have := HOK9.1 h
                  rw [hko] at this; cases this
                have hcv := HCO9 hko
                obtain ⟨cc, hcc⟩ : ∃ v, CO (m : Int) = v := ⟨_, rfl⟩
                have hci := HCI9 hko
                rw [hcc] at hcv hci
                have HPN := Lib.hid (HPT9.out hko)
                rw [hcc] at HPN
                clear HOK9 HCO9 HCI9 hko hcc
                have HCV := Lib.hid (fun W h k => sBlendCost A n c xs (some ⟨g, 0, none⟩) n n (twoL n p q m (T - m)) W hn h hn k)
                rw [hcv] at HCV
                clear hcv
                have HNX : Hid (tMrg (RT j) p q (PO (m + 1)) = tUp s9 p q m cc) := Lib.hid (by rw [HPN.out, hUP.out])
                clear HPN
                go_wp2_with fail
                refine (HCV.out _ (hx.in_ (by first | exact i4 | exact i4.drew)) HR4.out).mono ?_
                rintro _ w5 ⟨rfl, hb5⟩
                have i5 := i4.step hb5
                clear i4 hb5 HCV HR4
                rcases s9 with _ | ⟨i9, k9, n9, c9⟩
                · skip
                  have HN : Hid (tMrg (RT j) p q (PO (m + 1)) = some ((p : Int), (q : Int), (m : Int), cc)) := Lib.hid HNX.out
                  rw [show tI none = 0 from rfl, show tK none = 0 from rfl, show tN none = 0 from rfl, show tC (-1) none = -1 from rfl]
                  clear HSI HS9 hUP
                  clear HNX
                  go_wp2
                  go_roundw
                  case rel => exact ⟨m + 1, by have := HM.out; omega, by go_num, by rw [HN.out]; rfl, by rw [HN.out]; rfl, by rw [HN.out]; rfl, by rw [HN.out]; rfl, i5⟩
                  case measure => have := HM.out; simp [intOf]; omega
                · skip
                  have hc9 := HSI.out i9 k9 n9 c9 rfl
                  have hn0 : ¬ c9 < 0 := by omega
                  clear HSI HS9 hUP
                  rw [show tI (some (i9, k9, n9, c9)) = i9 from rfl, show tK (some (i9, k9, n9, c9)) = k9 from rfl, show tN (some (i9, k9, n9, c9)) = n9 from rfl, show tC (-1) (some (i9, k9, n9, c9)) = c9 from rfl]
                  by_cases hdc : cc < c9
                  · skip
                    have HN : Hid (tMrg (RT j) p q (PO (m + 1)) = some ((p : Int), (q : Int), (m : Int), cc)) := Lib.hid (HNX.out.trans (if_pos hdc))
                    clear HNX
                    go_wp2
                    go_roundw
                    case rel => exact ⟨m + 1, by have := HM.out; omega, by go_num, by rw [HN.out]; rfl, by rw [HN.out]; rfl, by rw [HN.out]; rfl, by rw [HN.out]; rfl, i5⟩
                    case measure => have := HM.out; simp [intOf]; omega
                  · skip
                    have HN : Hid (tMrg (RT j) p q (PO (m + 1)) = some (i9, k9, n9, c9)) := Lib.hid (HNX.out.trans (if_neg hdc))
                    clear HNX
                    go_wp2
                    go_roundw
                    case rel => exact ⟨m + 1, by have := HM.out; omega, by go_num, by rw [HN.out]; rfl, by rw [HN.out]; rfl, by rw [HN.out]; rfl, by rw [HN.out]; rfl, i5⟩
                    case measure => have := HM.out; simp [intOf]; omega
            · skip
              have hmM : m = M + 1 := by have := HM.out; omega
              have HN : Hid (RT (j + 1) = tMrg (RT j) p q (PO m)) := Lib.hid (by rw [hmM]; exact HJ.out)
              clear hmM
              generalize tMrg (RT j) p q (PO m) = s9 at *
              have hgt : T < (m : Int) := by omega
              clear hmT
              go_wp2
              go_roundw
              case rel => exact ⟨j + 1, by have := HQ.out; omega, by have := HQ.out; go_num, by rw [HN.out], by rw [HN.out], by rw [HN.out], by rw [HN.out], f3_0⟩
              case measure => simp [intOf]; omega
        · skip
          have HN : Hid (allT xs T L n (p + 1) = RT j) := Lib.hid (by
            have h := HQ.out
            have h2 := HAN.out
            rw [show n - (p + 1) = j by omega] at h2
            exact h2)
          have hlqi : ¬ (q : Int) < (n : Int) := by omega
          generalize RT j = s9 at *
          go_wp2
          go_roundw
          case rel => exact ⟨p + 1, by omega, by go_num, by rw [HN.out], by rw [HN.out], by rw [HN.out], by rw [HN.out], f2_0⟩
          case measure => simp [intOf]; omega
    · skip
      obtain rfl : p = n := by omega
      have hai := HAI.out p (Nat.le_refl _)
      generalize allT xs T L p p = s9 at *
      rcases s9 with _ | ⟨i9, k9, n9, c9⟩
      · skip
        rw [show tI none = 0 from rfl, show tK none = 0 from rfl, show tN none = 0 from rfl, show tC (-1) none = -1 from rfl]
        go_wp2
        exact bodyPost_ret (v := .tuple #[i64 0, i64 0, i64 0, .bool false]) (by simp [results, Try.results25, go_sem]) rfl (Val.mk' (by rw [HV.out]; rfl) f1_0)
      · skip
        have hc9 := hai i9 k9 n9 c9 rfl
        clear hai
        rw [show tI (some (i9, k9, n9, c9)) = i9 from rfl, show tK (some (i9, k9, n9, c9)) = k9 from rfl, show tN (some (i9, k9, n9, c9)) = n9 from rfl, show tC (-1) (some (i9, k9, n9, c9)) = c9 from rfl]
        go_wp2
        exact bodyPost_ret (v := .tuple #[i64 i9, i64 k9, i64 n9, .bool true]) (by simp [results, Try.results25, go_sem]) rfl (Val.mk' (by rw [HV.out]; rfl) f1_0)
end Go.Proofs.Ytmkfnhgaiheckaa
