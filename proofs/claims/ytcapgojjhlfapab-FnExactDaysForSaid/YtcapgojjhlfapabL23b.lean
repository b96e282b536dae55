/- Chapter 23: DaysFor. -/
import Derived.Test.YtcapgojjhlfapabK23
namespace Go.Proofs.Ytcapgojjhlfapab
open Go.ChangeShapes Go.WideShapes Go.ChangeAt Go.RowKit
set_option linter.unusedVariables false
set_option linter.unusedSimpArgs false
set_option maxHeartbeats 2000000

theorem Marks.step {w w' : World} {g n : Nat} {f : Nat → Bool} (h : Marks w g n f) (hb : Below w.heap.size w w') : Marks w' g n f := by
  obtain ⟨cur, hk, r⟩ := h
  exact ⟨cur, hk.step hb, r⟩
theorem Marks.congr {w : World} {g n : Nat} {f f' : Nat → Bool} (h : Marks w g n f) (he : ∀ t, t < n → f t = f' t) : Marks w g n f' := by
  obtain ⟨cur, hb, hs, hc⟩ := h
  exact ⟨cur, hb, hs, fun t ht => by rw [hc t ht, he t ht]⟩
theorem okS_days {n : Nat} {xs : List SkillR} {k : Nat} (h : okS n xs k = true) : 0 ≤ (xs.getD k z23).f1 ∧ (xs.getD k z23).f1 ≤ 100 := by
  simp only [okS, skB, Bool.and_eq_true] at h
  have := inB_tt h.1
  omega
theorem dsS_in {n k : Nat} {xs : List SkillR} (hl : (ordV n xs).length = n) (hok : ∀ i, i < n → okS n xs i = true) : ∀ i, i ≤ n → 0 ≤ dsS xs (ordV n xs) n k i ∧ dsS xs (ordV n xs) n k i ≤ 100 * i := by
  intro i
  induction i with
  | zero => intro _; simp [dsS]
  | succ i ih =>
    intro hi
    have h1 := ih (by omega)
    have h2 := okS_days (hok _ (xAt_in (n := n) (xs := xs) hl (i := i) (by omega)).1)
    rw [dsS]
    split <;> omega
set_option maxHeartbeats 8000000 in
theorem sDaysFor (A : Option Addr) (n c : Nat) (xs : List SkillR) (p : Int) (w : World) (hn : n ≤ maxLen) (hx : ReadsSkill w A n xs) : Calls Try.prog 23 #[.slice A n c, .int .i64 p] w (Val (.int .i64 (daysV n xs p)) w) := by
  obtain ⟨i0, hi0, hz0, hz1, hz2⟩ := info_parts infoB
  have HV : Hid (daysV n xs p = if skOk n xs && inB p 0 ((n : Int) - 1) then daysR n xs p.toNat else -1) := Lib.hid rfl
  go_enter Try.func23, Try.ntmps23
  go_wp2_with fail
  refine (sSkillsOk A n c xs _ hn hx).mono ?_
  rintro _ w1 ⟨rfl, hb1⟩
  cases h1 : skOk n xs
  · go_wp2
    go_ret
    exact Val.mk' (v_int (by rw [HV.out, h1]; rfl)) (by (repeat (first | exact In.refl _ | assumption | apply In.alloc | apply In.drewN | apply In.drew | (refine In.step ?_ (by assumption)))))
  have hn12 := (skOk_at h1).1
  go_wp2_with fail
  refine (sIn p 0 ((n : Int) - 1) _).mono ?_
  rintro _ _ ⟨rfl, rfl⟩
  cases h2 : inB p 0 ((n : Int) - 1)
  · go_wp2
    go_ret
    exact Val.mk' (v_int (by rw [HV.out, h1, h2]; rfl)) (by (repeat (first | exact In.refl _ | assumption | apply In.alloc | apply In.drewN | apply In.drew | (refine In.step ?_ (by assumption)))))
  have hp := inB_tt h2
  obtain ⟨P, rfl⟩ : ∃ P : Nat, p = (P : Int) := ⟨p.toNat, by omega⟩
  have HLEN := Lib.hid (skOk_at h1).2.2
  have HE : Hid (daysV n xs (P : Nat) = dsS xs (ordV n xs) n P n) := Lib.hid (by rw [HV.out, h1, h2, dsS_days HLEN.out]; rfl)
  have HOK := Lib.hid (skOk_at h1).2.1
  have hI1 : In w.heap.size w w1 := by (repeat (first | exact In.refl _ | assumption | apply In.alloc | apply In.drewN | apply In.drew | (refine In.step ?_ (by assumption))))
  have hX1 := hx.in_ hI1
  have HXX := Lib.hid hx
  have hPn : P < n := by omega
  clear hb1 HV h1 h2 hx
  go_wp2_with (at_make; refine wpList_make_full _ rfl (.tmp 23) (.tmp 23) 51 rfl w1.heap.size 4 i0 (.bool false) 1 Try.underlying51 hi0 hz0 hz1 .i64 .i64 (n : Int) (n : Int) n rfl rfl rfl rfl ?h2 ?h3 ?h4 ?_)
  case h2 => rw [hz2]; omega
  case h3 => unfold maxLen; omega
  case h4 => exact Nat.le_refl _
  intro w2 hown0 hgrow0
  have hb0 : Below w1.heap.size w1 w2 := (Below.refl _ _).grown hgrow0 (Nat.le_refl _) (fun j hj => by cases hj)
  have hM2 : Marks w2 w1.heap.size n (fun _ => false) := marks_made (by rw [toList_madeCells_one] at hown0; exact hown0)
  have hI2 := hI1.step hb0
  have hgw : w.heap.size ≤ w1.heap.size := hI1.size
  clear hgrow0 hown0 hb0 hI1 hX1
  generalize w1.heap.size = g at *
  have cP := hM2.cell P hPn
  have zP := hM2.free P
  have hM3 : Marks (w2.setCell ⟨g, P, none⟩ (.bool true)) g n (fun u => u == P) := hM2.set_ P fun u hu => by simp
  have hI3 : In w.heap.size w (w2.setCell ⟨g, P, none⟩ (.bool true)) := hI2.set_ (p := ⟨g, P, none⟩) hgw _
  have hX3 := HXX.out.in_ hI3
  clear hM2 hI2
  go_wp2_with fail
  refine (sOrder A n c xs _ (by omega) HOK.out hX3).mono ?_
  rintro _ w3 ⟨B, d, rfl, hor, hb3⟩
  rw [HLEN.out] at hor ⊢
  have hgl := hM3.lt
  have hM4 := hM3.step hb3
  have hI4 := hI3.step hb3
  have HNE : Hid (∀ a, B = some a → a.block ≠ g) := Lib.hid fun a ha => by have := own_blk_ge hor a ha; omega
  have hro := reads_own_i hor
  clear hor hX3 hM3 hI3 hb3 cP zP hgl
  go_wp2
  go_loopw [7, 8] (fun v i wr => ∃ j : Nat, j ≤ n ∧ i = .int .i64 j ∧ v = .int .i64 (dsS xs (ordV n xs) n P j) ∧ Marks wr g n (inS xs (ordV n xs) n P j) ∧ In w.heap.size w wr ∧ ReadsI wr B n (ordV n xs)) (fun _ i _ => n - (intOf i).toNat)
  case atStart => exact ⟨0, Nat.zero_le _, rfl, rfl, hM4, hI4, hro⟩
  case round =>
    clear hM4 hI4 hro
    obtain ⟨j, hj, rfl, rfl, hM, hi, hg⟩ := hrel
    by_cases hlt : j < n
    · have HG := Lib.hid hg
      obtain ⟨a, rfl, ha⟩ := hg.2 (n - 1 - j) (by omega)
      obtain ⟨hXn, hXe⟩ := xAt_in (n := n) (xs := xs) HLEN.out hlt
      have HD : Hid (dsS xs (ordV n xs) n P (j + 1) = if inS xs (ordV n xs) n P j (xAt (ordV n xs) n j) then dsS xs (ordV n xs) n P j + (xs.getD (xAt (ordV n xs) n j) z23).f1 else dsS xs (ordV n xs) n P j) := Lib.hid rfl
      have HI : Hid (inS xs (ordV n xs) n P (j + 1) = if inS xs (ordV n xs) n P j (xAt (ordV n xs) n j) then (fun u => inS xs (ordV n xs) n P j u || hasP (needs xs (xAt (ordV n xs) n j)) (u : Nat) (needs xs (xAt (ordV n xs) n j)).length) else inS xs (ordV n xs) n P j) := Lib.hid rfl
      have hdb := dsS_in (k := P) HLEN.out HOK.out j (by omega)
      rw [← hXe] at ha
      generalize xAt (ordV n xs) n j = X at *
      generalize inS xs (ordV n xs) n P j = f at *
      generalize dsS xs (ordV n xs) n P j = s at *
      have hdx := okS_days (HOK.out X hXn)
      have hok2 := okS_in (HOK.out X hXn)
      obtain ⟨a2, rfl, C, c', ⟨h0w, h9w⟩, g1, g2, hrr⟩ := HXX.out.2 X hXn
      unfold needs at HI hok2
      generalize xs.getD X z23 = sk at *
      obtain ⟨ns, dx⟩ := sk
      simp only at h0w h9w g1 hrr HD HI hdx hok2
      have h0 := cell_in h0w hi
      have h9 := cell_in h9w hi
      have hnm : ns.length ≤ maxLen := Nat.le_trans g1 g2
      have HRW := Lib.hid hrr
      have H0W := Lib.hid h0w
      have HOK2 := Lib.hid hok2
      have cX := hM.cell X hXn
      have HMJ := Lib.hid hM
      clear g1 g2 hrr h0w h9w hok2 hg hM hXe
      unfold maxLen at hnm
      cases hfX : f X
      · rw [hfX] at cX
        have HD1 : Hid (dsS xs (ordV n xs) n P (j + 1) = s) := Lib.hid (HD.out.trans (by simp [hfX]))
        have HI1 : Hid (inS xs (ordV n xs) n P (j + 1) = f) := Lib.hid (HI.out.trans (by simp [hfX]))
        clear hfX
        go_wp2
        go_roundw
        case rel => exact ⟨j + 1, by omega, by go_num, v_int (by rw [HD1.out]), by rw [HI1.out]; exact HMJ.out, hi, HG.out⟩
        case measure => simp [intOf]; omega
      · rw [hfX] at cX
        have HD1 : Hid (dsS xs (ordV n xs) n P (j + 1) = s + dx) := Lib.hid (HD.out.trans (by simp [hfX]))
        have HI1 : Hid (inS xs (ordV n xs) n P (j + 1) = fun u => f u || hasP ns (u : Nat) ns.length) := Lib.hid (HI.out.trans (by simp [hfX]))
        have hM0 : Marks wr g n (fun u => f u || hasP ns (u : Nat) 0) := HMJ.out.congr fun t ht => by simp [hasP]
        clear hfX HD HI
        go_wp2
        clear h0 h9 cX ha
        go_loopw [10] (fun i wr => ∃ t : Nat, t ≤ ns.length ∧ i = .int .i64 t ∧ Marks wr g n (fun u => f u || hasP ns (u : Nat) t) ∧ In w.heap.size w wr ∧ ReadsI wr (some a) n (ordV n xs)) (fun i _ => ns.length - (intOf i).toNat)
        case atStart => exact ⟨0, Nat.zero_le _, rfl, hM0, hi, HG.out⟩
        case round =>
          clear hM0 hi HG HMJ
          obtain ⟨t, ht, rfl, hM, hi, hg⟩ := hrel
          have h0 := cell_in H0W.out hi
          by_cases hlt2 : t < ns.length
          · obtain ⟨b, rfl, hb⟩ := (HRW.out.below hi.below (Nat.le_refl _)).2 t hlt2
            have hy := HOK2.out t hlt2
            have HP1 : Hid (∀ u : Nat, hasP ns (u : Nat) (t + 1) = (hasP ns (u : Nat) t || (ns.getD t 0 == (u : Int)))) := Lib.hid fun u => rfl
            generalize ns.getD t 0 = y at *
            obtain ⟨Y, rfl⟩ : ∃ Y : Nat, y = (Y : Int) := ⟨y.toNat, by omega⟩
            have hYn : Y < n := by omega
            have cY := hM.cell Y hYn
            have zY := hM.free Y
            have hM2 : Marks (wr.setCell ⟨g, Y, none⟩ (.bool true)) g n (fun u => f u || hasP ns (u : Nat) (t + 1)) := hM.set_ Y fun u hu => by
              rw [HP1.out, Bool.or_assoc]
              congr 2
              rw [Bool.eq_iff_iff, beq_iff_eq, beq_iff_eq]
              omega
            have hi2 : In w.heap.size w (wr.setCell ⟨g, Y, none⟩ (.bool true)) := hi.set_ (p := ⟨g, Y, none⟩) hgw _
            have hg2 := hg.setc (i := Y) (v := .bool true) HNE.out
            clear hM hg hy
            go_wp2
            go_roundw
            case rel => exact ⟨t + 1, by omega, by go_num, hM2, hi2, hg2⟩
            case measure => simp [intOf]; omega
          · obtain rfl : t = ns.length := by omega
            go_wp2
            go_roundw
            case rel => exact ⟨j + 1, by omega, by go_num, v_int (by rw [HD1.out]), by rw [HI1.out]; exact hM, hi, hg⟩
            case measure => simp [intOf]; omega
    · obtain rfl : j = n := by omega
      go_wp2
      go_ret
      exact Val.mk' (v_int HE.out.symm) (by (repeat (first | exact In.refl _ | assumption | apply In.alloc | apply In.drewN | apply In.drew | (refine In.step ?_ (by assumption)))))
theorem lsum_in {xs : List SkillR} {n : Nat} {L : List Int} (hd : Dist n L) (hok : ∀ i, i < n → okS n xs i = true) : ∀ t, t ≤ L.length → 0 ≤ sumTo (fun i => (xs.getD (L.getD i 0).toNat z23).f1) t ∧ sumTo (fun i => (xs.getD (L.getD i 0).toNat z23).f1) t ≤ t * 100 := fun t ht => by
  have := sumTo_bd (fun i => (xs.getD (L.getD i 0).toNat z23).f1) 100 t fun i hi => by
    have h1 := hd.1 i (by omega)
    exact okS_days (hok _ (by omega))
  exact this
set_option maxHeartbeats 8000000 in
theorem iDaysFor (A : Option Addr) (n c : Nat) (xs : List SkillR) (p : Int) (w : World) (hn : n ≤ maxLen) (hx : ReadsSkill w A n xs) : Calls Try.prog 24 #[.slice A n c, .int .i64 p] w (Val (.int .i64 (daysV n xs p)) w) := by
  obtain ⟨i0, hi0, hz0, hz1, hz2⟩ := info_parts infoI
  have HV : Hid (daysV n xs p = if skOk n xs && inB p 0 ((n : Int) - 1) then daysR n xs p.toNat else -1) := Lib.hid rfl
  go_enter Try.func24, Try.ntmps24
  go_wp2_with fail
  refine (iSkillsOk A n c xs _ hn hx).mono ?_
  rintro _ w1 ⟨rfl, hb1⟩
  cases h1 : skOk n xs
  · go_wp2
    go_ret
    exact Val.mk' (v_int (by rw [HV.out, h1]; rfl)) (by (repeat (first | exact In.refl _ | assumption | apply In.alloc | apply In.drewN | apply In.drew | (refine In.step ?_ (by assumption)))))
  have hn12 := (skOk_at h1).1
  go_wp2_with fail
  refine (iHas A n c p _ (by omega)).mono ?_
  rintro _ _ ⟨rfl, rfl⟩
  cases h2 : inB p 0 ((n : Int) - 1)
  · go_wp2
    go_ret
    exact Val.mk' (v_int (by rw [HV.out, h1, h2]; rfl)) (by (repeat (first | exact In.refl _ | assumption | apply In.alloc | apply In.drewN | apply In.drew | (refine In.step ?_ (by assumption)))))
  have hp := inB_tt h2
  obtain ⟨P, rfl⟩ : ∃ P : Nat, p = (P : Int) := ⟨p.toNat, by omega⟩
  have hPn : P < n := by omega
  have HLEN := Lib.hid (skOk_at h1).2.2
  have HOK := Lib.hid (skOk_at h1).2.1
  have HE : Hid (∀ L, Bf n xs P L L.length → daysV n xs (P : Nat) = sumTo (fun i => (xs.getD (L.getD i 0).toNat z23).f1) L.length) := Lib.hid fun L hL => by
    rw [hL.days HLEN.out hPn (fun x hx q hq => (okS_in (HOK.out x hx) q hq).1), HV.out, h1, h2]; rfl
  have HB0 := Lib.hid (Bf.start (xs := xs) hPn)
  have hI1 : In w.heap.size w w1 := by (repeat (first | exact In.refl _ | assumption | apply In.alloc | apply In.drewN | apply In.drew | (refine In.step ?_ (by assumption))))
  have HXX := Lib.hid hx
  have hI2 : In w.heap.size w (w1.alloc (.cells #[.int .i64 (P : Nat)] 3)) := hI1.alloc _
  have hown0 : (w1.alloc (.cells #[.int .i64 (P : Nat)] 3)).ownsRow w.heap.size 3 1 (.slice (some ⟨w1.heap.size, 0, none⟩) 1 1) 1 (iv [(P : Int)]) := own_lit w1 3 #[.int .i64 (P : Nat)] 1 w.heap.size rfl hI1.size (by unfold maxLen; omega)
  clear hb1 HV h1 h2 hx hI1
  go_wp2
  go_loopw [5, 6, 7] (fun v e i wr => ∃ (t : Nat) (L : List Int), t ≤ L.length ∧ i = .int .i64 t ∧ e = .int .i64 (sumTo (fun i => (xs.getD (L.getD i 0).toNat z23).f1) t) ∧ wr.ownsRow w.heap.size 3 1 v L.length (iv L) ∧ Bf n xs P L t ∧ In w.heap.size w wr) (fun _ _ i _ => n + 1 - (intOf i).toNat)
  case atStart => exact ⟨0, [(P : Int)], Nat.zero_le _, rfl, rfl, hown0, HB0.out, hI2⟩
  case round =>
    clear hown0 hI2 HB0
    obtain ⟨t, L, ht, rfl, rfl, hown, hB, hi⟩ := hrel
    obtain ⟨A1, c1, rfl⟩ := own_shape_i hown
    have hLn := hB.dist.len
    by_cases hlt : t < L.length
    · have hro := reads_own_i hown
      obtain ⟨a, rfl, ha⟩ := hro.2 t hlt
      have hin := hB.dist.1 t hlt
      have HS : Hid (∀ L' : List Int, (∀ i, i < L.length → L'.getD i 0 = L.getD i 0) → sumTo (fun i => (xs.getD (L'.getD i 0).toNat z23).f1) (t + 1) = sumTo (fun i => (xs.getD (L.getD i 0).toNat z23).f1) t + (xs.getD (L.getD t 0).toNat z23).f1) := Lib.hid fun L' h => by
        rw [sumTo_succ, h t hlt]
        congr 1
        exact sumTo_congr _ _ t fun i hi => by show (xs.getD (L'.getD i 0).toNat z23).f1 = _; rw [h i (by omega)]
      have hsb := lsum_in hB.dist HOK.out t ht
      have HBF := Lib.hid hB
      generalize sumTo (fun i => (xs.getD (L.getD i 0).toNat z23).f1) t = s at *
      obtain ⟨X, hX⟩ : ∃ X : Nat, L.getD t 0 = (X : Int) := ⟨(L.getD t 0).toNat, by omega⟩
      have HX := Lib.hid hX
      rw [hX] at ha hin
      have hXn : X < n := by omega
      have HNS : Hid (needs xs X = needs xs (L.getD t 0).toNat) := Lib.hid (by rw [hX]; rfl)
      have HSX : Hid (∀ L' : List Int, (∀ i, i < L.length → L'.getD i 0 = L.getD i 0) → sumTo (fun i => (xs.getD (L'.getD i 0).toNat z23).f1) (t + 1) = s + (xs.getD X z23).f1) := Lib.hid fun L' h => by have := HS.out L' h; rw [hX] at this; exact this
      have hdx := okS_days (HOK.out X hXn)
      have hok2 := okS_in (HOK.out X hXn)
      obtain ⟨a2, rfl, C, c', ⟨h0w, h9w⟩, g1, g2, hrr⟩ := HXX.out.2 X hXn
      have HW := Lib.hid (show (xs.getD X z23).f0 = needs xs X from rfl)
      unfold needs at hok2
      generalize hsk : xs.getD X z23 = sk at *
      obtain ⟨ns, dx⟩ := sk
      simp only at h0w h9w g1 hrr HSX hdx hok2 HW
      have h0 := cell_in h0w hi
      have h9 := cell_in h9w hi
      have hnm : ns.length ≤ maxLen := Nat.le_trans g1 g2
      have HRW := Lib.hid hrr
      have HOK2 := Lib.hid hok2
      have HNE2 : Hid (ns = needs xs (L.getD t 0).toNat) := Lib.hid (HW.out.trans HNS.out)
      have HOWN := Lib.hid hown
      clear g1 g2 hrr h0w h9w hok2 hro HS hX hsk HW HNS hB hown
      unfold maxLen at hnm
      have hown1 : (wr.alloc (.cells #[.slice C ns.length c', .int .i64 dx] 43)).ownsRow w.heap.size 3 1 (.slice (some a) L.length c1) L.length (iv L) := HOWN.out.alloc _
      have hi1 := hi.alloc (.cells #[.slice C ns.length c', .int .i64 dx] 43)
      clear HOWN
      go_wp2
      clear h0 h9 ha hi
      go_loopw [5, 42] (fun v i wr => ∃ (j : Nat) (L' : List Int), j ≤ ns.length ∧ i = .int .i64 j ∧ wr.ownsRow w.heap.size 3 1 v L'.length (iv L') ∧ Bg n xs P L ns L' j ∧ In w.heap.size w wr) (fun _ i _ => ns.length - (intOf i).toNat)
      case atStart => exact ⟨0, L, Nat.zero_le _, rfl, hown1, Bg.start HBF.out ns, hi1⟩
      case round =>
        clear hown1 hi1
        obtain ⟨j, L', hj, rfl, hown, hG, hi⟩ := hrel
        obtain ⟨A2, c2, rfl⟩ := own_shape_i hown
        have hLn2 := hG.dist.len
        by_cases hlt2 : j < ns.length
        · obtain ⟨b, rfl, hb⟩ := (HRW.out.below hi.below (Nat.le_refl _)).2 j hlt2
          have hy := HOK2.out j hlt2
          have HNEW : Hid (hasN L' (ns.getD j 0) = false → Bg n xs P L ns (L' ++ [ns.getD j 0]) (j + 1)) := Lib.hid fun h => hG.new HBF.out hlt HNE2.out hlt2 hy h
          have HOLD : Hid (hasN L' (ns.getD j 0) = true → Bg n xs P L ns L' (j + 1)) := Lib.hid fun h => hG.old h
          generalize ns.getD j 0 = x at *
          have HRO := Lib.hid (reads_own_i hown)
          clear hG
          go_wp2_with fail
          refine (iCont A2 L'.length c2 L' x _ (by unfold maxLen; omega) HRO.out).mono ?_
          rintro _ _ ⟨rfl, rfl⟩
          cases h1 : hasN L' x
          · have HN := Lib.hid (HNEW.out h1)
            clear HNEW HOLD h1 HRO
            generalize hm9 : L'.length = m9 at *
            have HM := Lib.hid hm9
            clear hm9
            have F9 : Hid (∀ u ∈ (#[Value.int .i64 ((x : Int))] : Array Value).toList, u.oneCell' = true) := Lib.hid (by intro u hu; simp at hu; subst hu; rfl)
            have f92 : m9 + 1 ≤ maxLen := by unfold maxLen; omega
            have f93 : (m9 + 1) * 8 ≤ 140737488355328 := by omega
            have hB9 : w.heap.size ≤ wr.heap.size := In.size (B := w.heap.size) (a := w) (by (repeat (first | exact In.refl _ | assumption | apply In.alloc | apply In.drewN | apply In.drew | (refine In.step ?_ (by assumption)))))
            go_wp2_with (first | (go_at_call 30; refine (sIn _ _ _ _).mono ?_; rintro e w' ⟨rfl, rfl⟩) | (go_at_call 35; refine (iIn _ _ _ _).mono ?_; rintro e w' ⟨rfl, rfl⟩) | (at_builtin; refine wpList_app wr rfl (.tmp 50) (.tmp 52) 29 rfl w.heap.size 3 i0 (.int .i64 0) 1 8 Try.underlying29 hi0 hz0 hz1 hz2 rfl Nat.one_pos (.slice A2 m9 c2) (m9) (iv (L')) rfl hown 1 #[.int .i64 ((x : Int))] rfl rfl F9.out f92 f93 hB9 ?_; intro v9 w9 hown9 hbw9) | go_in | (go_end0; simp only []; go_at_K))
            have hi9 : In w.heap.size w w9 := In.wide hi hbw9
            have hown2 : w9.ownsRow w.heap.size 3 1 v9 (L' ++ [x]).length (iv (L' ++ [x])) := by rw [iv_app, List.length_append, HM.out]; exact hown9
            clear hown9 hbw9 hown f92 f93 hB9
            go_wp2
            go_roundw
            case rel => exact ⟨j + 1, L' ++ [x], by omega, by go_num, hown2, HN.out, hi9⟩
            case measure => simp [intOf]; omega
          · have HN := Lib.hid (HOLD.out h1)
            clear HNEW HOLD h1 HRO
            go_wp2
            go_roundw
            case rel => exact ⟨j + 1, L', by omega, by go_num, hown, HN.out, hi⟩
            case measure => simp [intOf]; omega
        · obtain rfl : j = ns.length := by omega
          have HFIN := Lib.hid (hG.fin HBF.out hlt HNE2.out)
          have HPRE := Lib.hid hG.pre
          have hle : L.length ≤ L'.length := hG.pre.1
          clear hG
          go_wp2
          go_roundw
          case rel => exact ⟨t + 1, L', by omega, by go_num, v_int (by rw [HSX.out L' HPRE.out.2]), hown, HFIN.out, hi⟩
          case measure => simp [intOf]; omega
    · obtain rfl : t = L.length := by omega
      have HEE := Lib.hid (HE.out L hB)
      go_wp2
      go_ret
      exact Val.mk' (v_int HEE.out.symm) (by (repeat (first | exact In.refl _ | assumption | apply In.alloc | apply In.drewN | apply In.drew | (refine In.step ?_ (by assumption)))))
end Go.Proofs.Ytcapgojjhlfapab
