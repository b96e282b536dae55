/- Chapter 34: the law FnClocks. -/
import Derived.Test.YtoljdgmfpebhdaaDoorR34
import Derived.Test.YtoljdgmfpebhdaaDoorAt
import Derived.Test.YtoljdgmfpebhdaaDoorQuietL
import Derived.BigQuiet
import Derived.Deep.QuietTactic
namespace Go.Proofs.YtoljdgmfpebhdaaDoor
open Go.ChangeShapes Go.WideShapes Go.ChangeAt Go.RowKit
set_option linter.unusedVariables false
set_option linter.unusedSimpArgs false
set_option maxHeartbeats 2000000

def minV (f t : Int) : Int := if inB f 0 1439 && inB t 0 1439 then (t - f + 1440) % 1440 else -1
def btwB (m f t : Int) : Bool := inB m 0 1439 && decide (minV f m < minV f t)
theorem minV_in (f t : Int) : -1 ≤ minV f t ∧ minV f t ≤ 1440 := by unfold minV; split <;> omega
theorem iMinutesTo (f t : Int) (w : World) : Calls Tryd.prog 17 #[.int .i64 f, .int .i64 t] w (Same (i64 (minV f t)) w) := by
  cases h1 : inB f 0 1439 <;> cases h2 : inB t 0 1439
  case true.true =>
    obtain ⟨f1, f2⟩ := inB_tt h1
    obtain ⟨t1, t2⟩ := inB_tt h2
    have HV : Hid (minV f t = (t - f + 1440) % 1440) := Lib.hid (by simp [minV, h1, h2])
    go_enter Tryd.func17, Tryd.ntmps17
    go_wp2_with (first | (go_at_call 30; refine (sIn _ _ _ _).mono ?_; rintro e w' ⟨rfl, rfl⟩) | (go_at_call 37; refine (iIn _ _ _ _).mono ?_; rintro e w' ⟨rfl, rfl⟩) | (go_at_call 35; (with_reducible refine (im34 _ _).mono ?_); rintro e w' ⟨rfl, rfl⟩))
    go_ret
    exact ⟨ret_int HV.out.symm, rfl⟩
  all_goals
    have HV : Hid (minV f t = -1) := Lib.hid (by simp [minV, h1, h2])
    go_enter Tryd.func17, Tryd.ntmps17
    go_wp2_with (first | (go_at_call 30; refine (sIn _ _ _ _).mono ?_; rintro e w' ⟨rfl, rfl⟩) | (go_at_call 37; refine (iIn _ _ _ _).mono ?_; rintro e w' ⟨rfl, rfl⟩) | (go_at_call 35; (with_reducible refine (im34 _ _).mono ?_); rintro e w' ⟨rfl, rfl⟩))
    go_ret
    exact ⟨ret_int HV.out.symm, rfl⟩
theorem iIsBetween (m f t : Int) (w : World) : Calls Tryd.prog 18 #[.int .i64 m, .int .i64 f, .int .i64 t] w (Same (.bool (btwB m f t)) w) := by
  cases h0 : inB m 0 1439
  · have HV : Hid (btwB m f t = false) := Lib.hid (by simp [btwB, h0])
    go_enter Tryd.func18, Tryd.ntmps18
    go_wp2_with (first | (go_at_call 30; refine (sIn _ _ _ _).mono ?_; rintro e w' ⟨rfl, rfl⟩) | (go_at_call 37; refine (iIn _ _ _ _).mono ?_; rintro e w' ⟨rfl, rfl⟩) | (go_at_call 35; (with_reducible refine (im34 _ _).mono ?_); rintro e w' ⟨rfl, rfl⟩))
    go_ret
    exact ⟨ret_bool HV.out.symm, rfl⟩
  · have HV : Hid (btwB m f t = decide (minV f m < minV f t)) := Lib.hid (by simp [btwB, h0])
    go_enter Tryd.func18, Tryd.ntmps18
    go_wp2_with (first | (go_at_call 30; refine (sIn _ _ _ _).mono ?_; rintro e w' ⟨rfl, rfl⟩) | (go_at_call 37; refine (iIn _ _ _ _).mono ?_; rintro e w' ⟨rfl, rfl⟩) | (go_at_call 35; (with_reducible refine (im34 _ _).mono ?_); rintro e w' ⟨rfl, rfl⟩) | (go_at_call 17; (with_reducible refine (iMinutesTo _ _ _).mono ?_); rintro e w' ⟨rfl, rfl⟩))
    go_ret
    exact ⟨ret_bool HV.out.symm, rfl⟩
theorem at_all (a : Option Addr) (len cap : Nat) (i : Int) (w : World) (h0 : 0 ≤ i) (h1 : i ≤ 1000) (h : ReadsU w a len) :
    ∃ x : Int, (0 ≤ x ∧ x ≤ 255) ∧ ∀ W, In w.heap.size w W → Calls Tryd.prog 14 #[.slice a len cap, .int .i64 i] W (Same (.int .i64 x) W) := by
  have hl := h.1
  unfold maxLen at hl
  by_cases e : len = 0
  · subst e
    refine ⟨0, ⟨by omega, by omega⟩, fun W _ => ?_⟩
    go_enter Tryd.func14, Tryd.ntmps14
    go_wp2
    go_ret
    exact ⟨rfl, rfl⟩
  · have hz : ((len : Int) == 0) = false := by simp; omega
    have hne : ¬ ((len : Int) = 0) := by omega
    have k0 : 0 ≤ (i * 5 + 1) % (len : Int) := Int.emod_nonneg _ (by omega)
    have k1 : (i * 5 + 1) % (len : Int) < len := Int.emod_lt_of_pos _ (by omega)
    obtain ⟨ad, x, rfl, hc, x0, x1⟩ := h.2 ((i * 5 + 1) % (len : Int)).toNat (by omega)
    refine ⟨x, ⟨x0, x1⟩, fun W hW => ?_⟩
    have hcW := cell_in hc hW
    clear hc
    go_enter Tryd.func14, Tryd.ntmps14
    go_wp2
    go_ret
    exact ⟨rfl, rfl⟩
theorem rd75 : rdT ⟨#[55, 58, 53]⟩ = .tuple #[.int .i64 0, .bool false] :=
  rdT_no _ fun m hm e => by
    have h := timeB_data m hm
    rw [e] at h
    unfold timeL at h
    have h2 : 3 = (Lib.decDigits (m / 60)).length + ((padL (m % 60)).length + 1) := by
      have q := congrArg List.length h
      rw [List.length_append, List.length_cons] at q
      exact q
    have h3 := dec_len1 (m / 60)
    have h4 : (padL (m % 60)).length = 2 := by
      unfold padL
      split
      · rename_i q; have := (dec_one (m % 60)).2 q; simp [this]
      · rename_i q
        rw [Lib.decDigits, dif_neg q, Lib.decDigits, dif_pos (by omega)]; rfl
    omega
theorem rd70 : rdL ⟨#[55, 48, 109]⟩ = .tuple #[.int .i64 0, .bool false] := by
  have a : ∀ c ∈ (⟨#[55, 48, 109]⟩ : ByteArray).data.toList, c.toNat < 128 := by decide
  have e : minIn ⟨#[55, 48, 109]⟩ 104 = 70 := by
    rw [minIn_ascii _ _ a]; decide +kernel
  rw [rdL_prog, e, if_neg]
  intro h
  have h2 := lenB_data 70 (by omega)
  rw [show ((70 : Nat) : Int) = 70 from rfl, h] at h2
  unfold lenL at h2
  rw [if_neg (by omega), if_neg (by omega)] at h2
  have q := congrArg List.length h2
  have q0 : (⟨#[55, 48, 109]⟩ : ByteArray).data.toList.length = 3 := rfl
  have q1 := @List.length_append _ (Lib.decDigits (70 / 60)) (104 :: 32 :: (Lib.decDigits (70 % 60) ++ [109]))
  have q2 := @List.length_append _ (Lib.decDigits (70 % 60)) [109]
  have q3 : (104 :: 32 :: (Lib.decDigits (70 % 60) ++ [109])).length = (Lib.decDigits (70 % 60) ++ [109]).length + 1 + 1 := rfl
  have q4 : ([109] : List UInt8).length = 1 := rfl
  have h4 := dec_len1 (70 / 60)
  have h5 := dec_len1 (70 % 60)
  omega
theorem dg (k : Nat) (h : k < 10) : Lib.decDigits k = [UInt8.ofNat (48 + k)] := by rw [Lib.decDigits, dif_pos h]
theorem of_data {s : ByteArray} {l : List UInt8} (h : s.data.toList = l) : s = ⟨l.toArray⟩ := by subst h; rfl
theorem t307 : timeB 307 = ⟨#[53, 58, 48, 55]⟩ := by
  have h := timeB_data 307 (by omega)
  unfold timeL padL at h
  rw [if_pos (by omega), dg _ (by omega), dg _ (by omega)] at h
  exact of_data h
theorem l125 : lenB 125 = ⟨#[50, 104, 32, 53, 109]⟩ := by
  have h := lenB_data 125 (by omega)
  unfold lenL at h
  rw [if_neg (by omega), if_neg (by omega), dg _ (by omega), dg _ (by omega)] at h
  exact of_data h
theorem l0 : lenB 0 = ⟨#[48, 109]⟩ := by
  have h := lenB_data 0 (by omega)
  unfold lenL at h
  rw [if_pos (by omega), dg _ (by omega)] at h
  exact of_data h
theorem clock_law {m t u : Int} (hm : 0 ≤ m ∧ m ≤ 1275) (ht : 0 ≤ t ∧ t ≤ 1275) (hu : 0 ≤ u ∧ u ≤ 1275) :
    ∃ X Y Z : Int, minV m t = X ∧ minV t m = Y ∧ minV m u = Z ∧ btwB u m t = decide (Z < X) ∧ btwB t m t = false ∧ 0 ≤ X ∧ X < 1440 ∧ 0 ≤ Y ∧ Y < 1440 ∧ ((m ≠ t ∧ X + Y = 1440) ∨ (m = t ∧ X = 0 ∧ Y = 0)) ∧ (m + X) % 1440 = t := by
  have b1 := inB_t (n := m) (a := 0) (b := 1439) (by omega)
  have b2 := inB_t (n := t) (a := 0) (b := 1439) (by omega)
  have b3 := inB_t (n := u) (a := 0) (b := 1439) (by omega)
  refine ⟨_, _, _, rfl, rfl, rfl, by simp [btwB, b3], ?_, ?_⟩
  · simp [btwB, minV]
  · simp only [minV, b1, b2, Bool.and_self, if_true]
    omega
set_option maxHeartbeats 8000000 in
set_option maxRecDepth 20000 in
theorem walk_FnClocks (a0 : Option Addr) (len0 cap0 : Nat) (z0 : List Int) (w : World) (w0 : IsRow .u8 w a0 len0 cap0 z0) (hL : laidMetH Tryd.prog Rows.fnClocksRow.laid w) :
    Calls Tryd.prog 5 #[.slice a0 len0 cap0] w fun e w' => e = .returned (.bool true) ∧ Below w.heap.size w w' := by
  have HT := Lib.hid (show Tab w from table hL (by kernel_rfl))
  clear hL
  have hb := ReadsU.of_row w0
  have hm := hb.1
  clear w0
  by_cases hbig : (1048576 : Int) < (len0 : Int)
  · go_enter Tryd.func5, Tryd.ntmps5
    go_wp2_with fail
    refine (bigU _ _ _ _ hm true (by simpa using hbig)).mono ?_
    rintro e w' ⟨rfl, rfl⟩
    go_wp2_with fail
    go_ret
    exact ⟨rfl, Below.refl _ _⟩
  obtain ⟨x0, h0, A0⟩ := at_all a0 len0 cap0 0 w (by omega) (by omega) hb
  obtain ⟨x1, h1, A1⟩ := at_all a0 len0 cap0 1 w (by omega) (by omega) hb
  obtain ⟨x2, h2, A2⟩ := at_all a0 len0 cap0 2 w (by omega) (by omega) hb
  have HA0 := Lib.hid A0
  have HA1 := Lib.hid A1
  have HA := Lib.hid A2
  clear A0 A1 A2
  go_enter Tryd.func5, Tryd.ntmps5
  go_wp2_with fail
  refine (bigU _ _ _ _ hm false (by simpa using hbig)).mono ?_
  rintro e w' ⟨rfl, rfl⟩
  clear hbig hm hb
  go_wp2_with fail
  refine (HA0.out _ (In.refl _)).mono ?_
  rintro e w' ⟨rfl, rfl⟩
  go_wp2_with fail
  refine (HA1.out _ (In.refl _)).mono ?_
  rintro e w' ⟨rfl, rfl⟩
  go_wp2_with fail
  have W2 : wrap64 (x2 * 5) = x2 * 5 := w64 ⟨by omega, by omega⟩
  have gm : 0 ≤ x0 * 5 ∧ x0 * 5 ≤ 1275 := by omega
  have gt : 0 ≤ x1 * 5 ∧ x1 * 5 ≤ 1275 := by omega
  have gu : 0 ≤ x2 * 5 ∧ x2 * 5 ≤ 1275 := by omega
  generalize x0 * 5 = m at gm ⊢
  generalize x1 * 5 = t at gt ⊢
  obtain ⟨u, hu⟩ : ∃ u, x2 * 5 = u := ⟨_, rfl⟩
  rw [hu] at gu
  rw [show wrap64 (x2 * 5) = wrap64 (x2 * 5) from rfl] at W2
  replace W2 : wrap64 (x2 * 5) = u := W2.trans hu
  clear hu
  clear h0 h1 h2
  have HTM := Lib.hid (fun W h => iTimeText m W h)
  have HRM := Lib.hid (fun W h => iReadTime (timeB m) W h)
  have HLM := Lib.hid (fun W h => iLengthText (m * 7) W h)
  have HRL := Lib.hid (fun W h => iReadLength (lenB (m * 7)) W h)
  have r1 : rdT (timeB m) = .tuple #[.int .i64 m, .bool true] := by
    obtain ⟨k, rfl⟩ := Int.eq_ofNat_of_zero_le gm.1
    exact rdT_yes k (by omega)
  have r2 : rdL (lenB (m * 7)) = .tuple #[.int .i64 (m * 7), .bool true] := by
    obtain ⟨k, rfl⟩ := Int.eq_ofNat_of_zero_le gm.1
    exact rdL_yes (k * 7) (by omega)
  rw [r1] at HRM
  rw [r2] at HRL
  clear r1 r2
  have HR7 := Lib.hid (fun W h => iReadTime ⟨#[55, 58, 53]⟩ W h)
  have HR0 := Lib.hid (fun W h => iReadLength ⟨#[55, 48, 109]⟩ W h)
  rw [rd75] at HR7
  rw [rd70] at HR0
  obtain ⟨X, Y, Z, e1, e2, e3, e4, e5, x0, x1, y0, y1, hxy, hmod⟩ := clock_law gm gt gu
  have HX := Lib.hid (fun W => iMinutesTo m t W)
  have HY := Lib.hid (fun W => iMinutesTo t m W)
  have HZ := Lib.hid (fun W => iMinutesTo m u W)
  have HB := Lib.hid (fun W => iIsBetween u m t W)
  have HC := Lib.hid (fun W => iIsBetween t m t W)
  rw [e1] at HX
  rw [e2] at HY
  rw [e3] at HZ
  rw [e4] at HB
  rw [e5] at HC
  have HT3 := Lib.hid (fun W (h : In w.heap.size w W) => iTimeText 307 W (HT.out.in_ h))
  have HL1 := Lib.hid (fun W (h : In w.heap.size w W) => iLengthText 125 W (HT.out.in_ h))
  have HL0 := Lib.hid (fun W (h : In w.heap.size w W) => iLengthText 0 W (HT.out.in_ h))
  rw [t307] at HT3
  rw [l125] at HL1
  rw [l0] at HL0
  generalize timeB m = tm at HTM HRM
  generalize lenB (m * 7) = lm at HLM HRL
  clear e1 e2 e3 e4 e5
  refine (HTM.out _ HT.out).mono ?_
  rintro _ w1 ⟨rfl, hb1⟩
  have i1 : In w.heap.size w w1 := In.step (In.refl _) hb1
  clear hb1 HTM
  go_wp2_with fail
  refine (HRM.out _ (HT.out.in_ i1)).mono ?_
  rintro _ w2 ⟨rfl, hb2⟩
  have i2 : In w.heap.size w w2 := In.step i1 hb2
  clear hb2 i1 HRM
  go_wp2_with fail
  refine (HLM.out _ (HT.out.in_ i2)).mono ?_
  rintro _ w3 ⟨rfl, hb3⟩
  have i3 : In w.heap.size w w3 := In.step i2 hb3
  clear hb3 i2 HLM
  go_wp2_with fail
  refine (HRL.out _ (HT.out.in_ i3)).mono ?_
  rintro _ w4 ⟨rfl, hb4⟩
  have i4 : In w.heap.size w w4 := In.step i3 hb4
  clear hb4 i3 HRL
  go_wp2_with fail
  refine (HX.out _).mono ?_
  rintro e w' ⟨rfl, rfl⟩
  clear HX
  go_wp2_with fail
  refine (HY.out _).mono ?_
  rintro e w' ⟨rfl, rfl⟩
  clear HY
  go_wp2_with fail
  refine (HR7.out _ (HT.out.in_ i4)).mono ?_
  rintro _ w5 ⟨rfl, hb5⟩
  have i5 : In w.heap.size w w5 := In.step i4 hb5
  clear hb5 i4 HR7
  go_wp2_with fail
  refine (HR0.out _ (HT.out.in_ i5)).mono ?_
  rintro _ w6 ⟨rfl, hb6⟩
  have i6 : In w.heap.size w w6 := In.step i5 hb6
  clear hb6 i5 HR0
  go_wp2_with fail
  refine (HA.out _ i6).mono ?_
  rintro e w' ⟨rfl, rfl⟩
  have W3 : IntKind.i64.wrap (m * 7) = m * 7 := IntWalk.i64_in _ (by omega)
  have W4 : IntKind.i64.wrap (m + X) = m + X := IntWalk.i64_in _ (by omega)
  have W5 : (m + X).tmod 1440 = t := by rw [Int.tmod_eq_emod_of_nonneg (by omega)]; exact hmod
  have d1 : decide (0 ≤ X) = true := by simp; omega
  have d2 : decide (X < 1440) = true := by simp; omega
  rcases hxy with ⟨hne, hs⟩ | ⟨rfl, rfl, rfl⟩
  · skip
    have W6 : IntKind.i64.wrap (X + Y) = 1440 := by rw [hs]; rfl
    clear hne hs
    clear x0 x1 y0 y1 hmod gm gt gu
    simp only []
    iterate 11 go_step
    rw [List.append_eq]
    (try rw [List.append_eq])
    (repeat rw [List.cons_append])
    (repeat rw [List.nil_append])
    refine wp_region_L (C := (fun w' => In w.heap.size w w')) ?_ ?_
    · exact i6
    repeat (first | go_big_quiet_skip | (go_big_quiet_want; first | (refine quiet_ex ?_; apply Exists.intro; refine ⟨fun W hW => ?_, ?_⟩; (· (obtain i7 := hW; go_simp; (first | done | with_reducible rfl | rfl))); simp only [Act.put, List.setIfInBounds_toArray, List.set_cons_zero, List.set_cons_succ]; go_big_quiet_on) | (refine quiet_ex ?_; apply Exists.intro; refine ⟨fun W hW => ?_, ?_⟩; (· (go_simp; first | (go_at_call 14; (with_reducible refine (HA.out _ hW).mono ?_); rintro e w2 ⟨rfl, rfl⟩; exact ⟨rfl, hW⟩) | (go_at_call 18; (with_reducible refine (HB.out _).mono ?_); rintro e w2 ⟨rfl, rfl⟩; exact ⟨rfl, hW⟩) | (go_at_call 18; (with_reducible refine (HC.out _).mono ?_); rintro e w2 ⟨rfl, rfl⟩; exact ⟨rfl, hW⟩) | (go_at_call 17; (with_reducible refine (HZ.out _).mono ?_); rintro e w2 ⟨rfl, rfl⟩; exact ⟨rfl, hW⟩) | (go_at_call 15; (with_reducible refine (HT3.out _ hW).mono ?_); rintro e w2 ⟨rfl, hb2⟩; exact ⟨rfl, hW.step hb2⟩) | (go_at_call 16; (with_reducible refine (HL1.out _ hW).mono ?_); rintro e w2 ⟨rfl, hb2⟩; exact ⟨rfl, hW.step hb2⟩) | (go_at_call 16; (with_reducible refine (HL0.out _ hW).mono ?_); rintro e w2 ⟨rfl, hb2⟩; exact ⟨rfl, hW.step hb2⟩))); simp only [Act.put, List.setIfInBounds_toArray, List.set_cons_zero, List.set_cons_succ]; go_big_quiet_on)))
    refine wpQuiet_nil ?_
    rintro w' i7
    go_wp2
    go_ret
    exact ⟨rfl, i7.below⟩
  · skip
    have W6 : IntKind.i64.wrap (0 + 0) = 0 := rfl
    have W7 : IntKind.i64.wrap 0 = 0 := rfl
    have W8 : IntKind.i64.wrap m = m := IntWalk.i64_in _ (by omega)
    have W9 : m.tmod 1440 = m := by rw [Int.tmod_eq_emod_of_nonneg (by omega)]; omega
    clear x0 x1 y0 y1 hmod gm gt gu
    simp only []
    iterate 11 go_step
    rw [List.append_eq]
    (try rw [List.append_eq])
    (repeat rw [List.cons_append])
    (repeat rw [List.nil_append])
    refine wp_region_L (C := (fun w' => In w.heap.size w w')) ?_ ?_
    · exact i6
    repeat (first | go_big_quiet_skip | (go_big_quiet_want; first | (refine quiet_ex ?_; apply Exists.intro; refine ⟨fun W hW => ?_, ?_⟩; (· (obtain i7 := hW; go_simp; (first | done | with_reducible rfl | rfl))); simp only [Act.put, List.setIfInBounds_toArray, List.set_cons_zero, List.set_cons_succ]; go_big_quiet_on) | (refine quiet_ex ?_; apply Exists.intro; refine ⟨fun W hW => ?_, ?_⟩; (· (go_simp; first | (go_at_call 14; (with_reducible refine (HA.out _ hW).mono ?_); rintro e w2 ⟨rfl, rfl⟩; exact ⟨rfl, hW⟩) | (go_at_call 18; (with_reducible refine (HB.out _).mono ?_); rintro e w2 ⟨rfl, rfl⟩; exact ⟨rfl, hW⟩) | (go_at_call 18; (with_reducible refine (HC.out _).mono ?_); rintro e w2 ⟨rfl, rfl⟩; exact ⟨rfl, hW⟩) | (go_at_call 17; (with_reducible refine (HZ.out _).mono ?_); rintro e w2 ⟨rfl, rfl⟩; exact ⟨rfl, hW⟩) | (go_at_call 15; (with_reducible refine (HT3.out _ hW).mono ?_); rintro e w2 ⟨rfl, hb2⟩; exact ⟨rfl, hW.step hb2⟩) | (go_at_call 16; (with_reducible refine (HL1.out _ hW).mono ?_); rintro e w2 ⟨rfl, hb2⟩; exact ⟨rfl, hW.step hb2⟩) | (go_at_call 16; (with_reducible refine (HL0.out _ hW).mono ?_); rintro e w2 ⟨rfl, hb2⟩; exact ⟨rfl, hW.step hb2⟩))); simp only [Act.put, List.setIfInBounds_toArray, List.set_cons_zero, List.set_cons_succ]; go_big_quiet_on)))
    refine wpQuiet_nil ?_
    rintro w' i7
    go_wp2
    go_ret
    exact ⟨rfl, i7.below⟩
end Go.Proofs.YtoljdgmfpebhdaaDoor
