/- Chapter 33: PointsOf, WinnerByPoints, contracts. -/
import Derived.Test.YtbbinndegcnedacF33
namespace Go.Proofs.Ytbbinndegcnedac
open Go.ChangeShapes Go.WideShapes Go.ChangeAt Go.RowKit
set_option linter.unusedVariables false
set_option linter.unusedSimpArgs false
set_option maxHeartbeats 2000000

theorem In.only {B : Nat} {a w w' : World} {g : Nat} (h : In B a w) (hg : w.grownBy w' (some g)) (hB : B ≤ g) : In B a w' :=
  ⟨h.below.grown hg h.size (fun j hj => by injection hj with hj; omega), Nat.le_trans h.size hg.size⟩
theorem own_row {w : World} {B g n : Nat} {ps : List Int} (h : OwnInt w g n ps) (hB : B ≤ g) : w.ownsRow B 3 1 (.slice (some ⟨g, 0, none⟩) n n) n (iv ps) := by
  refine ⟨h.1, ?_⟩
  rcases h.2 with ⟨hn, _⟩ | ⟨g2, cap, cur, hv, hg, rest⟩
  · cases hn
  · exact .inr ⟨g2, cap, cur, hv, Nat.le_trans hB hg, rest⟩
theorem row_ne {w : World} {B : Option Addr} {q g : Nat} {x : List Int} (h : ReadsI w B q x) (h1 : 1 ≤ q) (hg : w.heap.size ≤ g) : ∀ a, B = some a → a.block ≠ g := by
  intro a ha
  obtain ⟨b, hb, hc⟩ := h.2 0 (by omega)
  rw [ha] at hb
  injection hb with hb
  subst hb
  have h2 := cell_lt hc
  have h3 : (a.add 0).block = a.block := rfl
  omega
theorem iPointsOf (A : Option Addr) (m c : Nat) (vs : List IntSR) (n : Int) (w : World) (hm : m ≤ maxLen) (hx : ReadsIntS w A m vs) : Calls Try.prog 17 #[.slice A m c, .int .i64 n] w (RowB (PointsOfL m vs n) w) := by
  obtain ⟨i0, hi0, hz0, hz1, hz2⟩ := info_parts infoI
  cases h0 : votesB m vs n
  · have HV : Hid (PointsOfL m vs n = []) := Lib.hid (by simp [PointsOfL, h0])
    go_enter Try.func17, Try.ntmps17
    go_wp2_with fail
    refine (iVotesOk A m c vs n _ hm hx).mono ?_
    rintro _ w1 ⟨rfl, hb1⟩
    rw [h0]
    go_wp2
    go_ret
    rw [HV.out]
    exact rowB_nil _ _ (by (repeat (first | exact In.refl _ | assumption | apply In.alloc | apply In.drewN | apply In.drew | (refine In.step ?_ (by assumption)))))
  obtain ⟨n1, n2, m1, m2, hv⟩ := votes_at h0
  obtain ⟨q, rfl⟩ : ∃ q : Nat, n = q := ⟨n.toNat, by omega⟩
  have HV : Hid (PointsOfL m vs q = ptsTo vs q m) := Lib.hid (by simp [PointsOfL, h0])
  simp only [Int.toNat_natCast] at hv
  have HVV := Lib.hid hv
  clear hv
  go_enter Try.func17, Try.ntmps17
  go_wp2_with fail
  refine (iVotesOk A m c vs q _ hm hx).mono ?_
  rintro _ w1 ⟨rfl, hb1⟩
  rw [h0]
  have i1 : In w.heap.size w w1 := In.step (by (repeat (first | exact In.refl _ | assumption | apply In.alloc | apply In.drewN | apply In.drew | (refine In.step ?_ (by assumption))))) hb1
  clear hb1 h0
  go_wp2_with (at_make; refine wpList_make_full _ rfl (.tmp 12) (.tmp 12) 27 rfl w1.heap.size 3 i0 (.int .i64 0) 1 Try.underlying27 hi0 hz0 hz1 .i64 .i64 (q : Int) (q : Int) q rfl rfl rfl rfl ?h2 ?h3 ?h4 ?_)
  case h2 => rw [hz2]; omega
  case h3 => unfold maxLen; omega
  case h4 => exact Nat.le_refl _
  intro w2 hown0 hgrow0
  have hg := i1.size
  have hwo : OwnInt w2 w1.heap.size q (ptsTo vs q 0) := by rw [toList_madeCells_one, iv_zeros] at hown0; exact hown0
  have i2 : In w.heap.size w w2 := ⟨i1.below.grown hgrow0 i1.size (fun j hj => by cases hj), Nat.le_trans i1.size hgrow0.size⟩
  clear hown0 hgrow0 i1
  generalize w1.heap.size = g at *
  go_wp2
  go_loopw [16] (fun i wr => ∃ k : Nat, k ≤ m ∧ i = .int .i64 k ∧ OwnInt wr g q (ptsTo vs q k) ∧ In w.heap.size w wr) (fun i _ => m - (intOf i).toNat)
  case atStart => exact ⟨0, Nat.zero_le _, rfl, hwo, i2⟩
  case round =>
    clear hwo i2
    obtain ⟨k, hk, rfl, hwo, hi⟩ := hrel
    by_cases hlt : k < m
    · obtain ⟨ad, rfl, B, d, h0, h1, h2, h3⟩ := hx.2 k hlt
      obtain ⟨hl, hra, hin⟩ := vote_at (HVV.out k hlt)
      rw [hl] at h0 h1 h3
      have H0W := Lib.hid h0
      have H3W := Lib.hid h3
      have h0 := cell_in h0 hi
      have hne := row_ne h3 (by omega) hg
      have h3 := h3.below hi.below (Nat.le_refl _)
      have hpi := ptsTo_in vs q k (by omega)
      have hPS : Hid (ptsTo vs q (k + 1) = addV (ptsTo vs q k) (vs.getD k []) q (q - 1)) := Lib.hid rfl
      have hPL := ptsTo_len vs q k
      have HLS := Lib.hid (addV_last (ptsTo vs q k) (vs.getD k []) q (by omega))
      generalize vs.getD k [] = x at *
      generalize ptsTo vs q k = ps at *
      have HC := Lib.hid (iaddPoints q g B d ps x wr (by omega) (by omega) (fun i hi => by have := hpi i hi; omega) hwo h3 hra hin hne)
      clear hpi hra hin hne hwo h3 hl hPL
      go_wp2_with fail
      refine HC.out.mono ?_
      rintro _ w3 ⟨rfl, ho3, hg3⟩
      have hi3 := hi.only hg3 hg
      go_wp2
      go_roundw
      case rel => exact ⟨k + 1, by omega, by go_num, by rw [hPS.out]; exact ho3, hi3⟩
      case measure => simp [intOf]; omega
    · obtain rfl : k = m := by omega
      have hl := ptsTo_len vs q k
      go_wp2
      go_ret
      rw [HV.out]
      exact rowB_of hl (own_row hwo hg) hi.below
theorem sPointsOf (A : Option Addr) (m c : Nat) (vs : List IntSR) (n : Int) (w : World) (hm : m ≤ maxLen) (hx : ReadsIntS w A m vs) : Calls Try.prog 16 #[.slice A m c, .int .i64 n] w (RowB (PointsOfL m vs n) w) := by
  obtain ⟨i0, hi0, hz0, hz1, hz2⟩ := info_parts infoI
  cases h0 : votesB m vs n
  · have HV : Hid (PointsOfL m vs n = []) := Lib.hid (by simp [PointsOfL, h0])
    go_enter Try.func16, Try.ntmps16
    go_wp2_with fail
    refine (sVotesOk A m c vs n _ hm hx).mono ?_
    rintro _ w1 ⟨rfl, hb1⟩
    rw [h0]
    go_wp2
    go_ret
    rw [HV.out]
    exact rowB_lit #[] 0 [] (by (repeat (first | exact In.refl _ | assumption | apply In.alloc | apply In.drewN | apply In.drew | (refine In.step ?_ (by assumption))))) rfl rfl (by decide)
  obtain ⟨n1, n2, m1, m2, hv⟩ := votes_at h0
  obtain ⟨q, rfl⟩ : ∃ q : Nat, n = q := ⟨n.toNat, by omega⟩
  have HV : Hid (PointsOfL m vs q = ptsTo vs q m) := Lib.hid (by simp [PointsOfL, h0])
  simp only [Int.toNat_natCast] at hv
  have HVV := Lib.hid hv
  clear hv
  go_enter Try.func16, Try.ntmps16
  go_wp2_with fail
  refine (sVotesOk A m c vs q _ hm hx).mono ?_
  rintro _ w1 ⟨rfl, hb1⟩
  rw [h0]
  have i1 : In w.heap.size w w1 := In.step (by (repeat (first | exact In.refl _ | assumption | apply In.alloc | apply In.drewN | apply In.drew | (refine In.step ?_ (by assumption))))) hb1
  clear hb1 h0
  go_wp2_with (at_make; refine wpList_make_full _ rfl (.tmp 14) (.tmp 14) 27 rfl w1.heap.size 3 i0 (.int .i64 0) 1 Try.underlying27 hi0 hz0 hz1 .i64 .i64 (q : Int) (q : Int) q rfl rfl rfl rfl ?h2 ?h3 ?h4 ?_)
  case h2 => rw [hz2]; omega
  case h3 => unfold maxLen; omega
  case h4 => exact Nat.le_refl _
  intro w2 hown0 hgrow0
  have hg := i1.size
  have hwo : OwnInt w2 w1.heap.size q (ptsTo vs q 0) := by rw [toList_madeCells_one, iv_zeros] at hown0; exact hown0
  have i2 : In w.heap.size w w2 := ⟨i1.below.grown hgrow0 i1.size (fun j hj => by cases hj), Nat.le_trans i1.size hgrow0.size⟩
  clear hown0 hgrow0 i1
  generalize w1.heap.size = g at *
  go_wp2
  go_loopw [6] (fun i wr => ∃ k : Nat, k ≤ m ∧ i = .int .i64 k ∧ OwnInt wr g q (ptsTo vs q k) ∧ In w.heap.size w wr) (fun i _ => m - (intOf i).toNat)
  case atStart => exact ⟨0, Nat.zero_le _, rfl, hwo, i2⟩
  case round =>
    clear hwo i2
    obtain ⟨k, hk, rfl, hwo, hi⟩ := hrel
    by_cases hlt : k < m
    · obtain ⟨ad, rfl, B, d, h0, h1, h2, h3⟩ := hx.2 k hlt
      obtain ⟨hl, hra, hin⟩ := vote_at (HVV.out k hlt)
      rw [hl] at h0 h1 h3
      have H0W := Lib.hid h0
      have H3W := Lib.hid h3
      have h0 := cell_in h0 hi
      have hne := row_ne h3 (by omega) hg
      have h3 := h3.below hi.below (Nat.le_refl _)
      have hpi := ptsTo_in vs q k (by omega)
      have hPS : Hid (ptsTo vs q (k + 1) = addV (ptsTo vs q k) (vs.getD k []) q (q - 1)) := Lib.hid rfl
      have hPL := ptsTo_len vs q k
      have HLS := Lib.hid (addV_last (ptsTo vs q k) (vs.getD k []) q (by omega))
      generalize vs.getD k [] = x at *
      generalize ptsTo vs q k = ps at *
      have HPI := Lib.hid hpi
      have HRA := Lib.hid hra
      have HIN := Lib.hid hin
      clear hpi hra hin hl hne h3
      obtain ⟨w8, rfl⟩ : ∃ w8, w8 = wr := ⟨_, rfl⟩
      go_wp2
      go_loopw [7] (fun i wr2 => ∃ t : Nat, t ≤ q ∧ i = .int .i64 t ∧ OwnInt wr2 g q (addV ps x q t) ∧ In w.heap.size w wr2) (fun i _ => q - (intOf i).toNat)
      case atStart => exact ⟨0, Nat.zero_le _, rfl, hwo, by (repeat (first | exact In.refl _ | assumption | apply In.alloc | apply In.drewN | apply In.drew | (refine In.step ?_ (by assumption))))⟩
      case round =>
        obtain ⟨t, ht, rfl, hwt, hi2⟩ := hrel
        by_cases hlt2 : t < q
        · have h00 := cell_in H0W.out hi2
          obtain ⟨b, rfl, hb⟩ := (H3W.out.below hi2.below (Nat.le_refl _)).2 t hlt2
          have hxr := HRA.out t hlt2
          have HSS : Hid (addV ps x q (t + 1) = (addV ps x q t).set (x.getD t 0).toNat ((addV ps x q t).getD (x.getD t 0).toNat 0 + ((q : Int) - 1 - t))) := Lib.hid rfl
          obtain ⟨y, hy⟩ : ∃ y : Nat, x.getD t 0 = (y : Int) := ⟨(x.getD t 0).toNat, by omega⟩
          rw [hy] at hb hxr HSS
          have hyq : y < q := by omega
          have hcl := hwt.cellI (b := y) hyq
          have hfr := hwt.free (b := y)
          have hbd := addV_in ps x q t (36 * (k : Int)) (by omega) (by omega) (by rw [hPL]; exact HPI.out) y (by rw [hPL]; exact hyq)
          rw [Int.toNat_natCast] at HSS
          generalize addV ps x q t = pa at *
          have HOW := Lib.hid hwt
          clear hwt hy
          generalize pa.getD y 0 = s at *
          go_wp2
          go_roundw
          case rel => exact ⟨t + 1, by omega, by go_num, by rw [HSS.out, show s + ((q : Int) - 1 - t) = s + (q : Int) - 1 - t from by omega]; exact HOW.out.put _, hi2.set_ hg _⟩
          case measure => simp [intOf]; omega
        · obtain rfl : t = q := by omega
          have hq := HLS.out
          go_wp2
          go_roundw
          case rel => exact ⟨k + 1, by omega, by go_num, by rw [hPS.out, ← hq]; exact hwt, hi2⟩
          case measure => simp [intOf]; omega
    · obtain rfl : k = m := by omega
      have hl := ptsTo_len vs q k
      go_wp2
      go_ret
      rw [HV.out]
      exact rowB_of hl (own_row hwo hg) hi.below
end Go.Proofs.Ytbbinndegcnedac
