/- Chapter 21: TripsOk, the model; WayOf. -/
import Derived.Test.YtkibabajalajeaaD21
namespace Go.Proofs.Ytkibabajalajeaa
open Go.ChangeShapes Go.WideShapes Go.ChangeAt Go.RowKit
set_option linter.unusedVariables false
set_option linter.unusedSimpArgs false
set_option maxHeartbeats 2000000

theorem rows_in {n m : Nat} {ts : List IntSR} (h : ordAll n m ts = true) {q : Nat} (hq : q < m) : ∀ k, k < (ts.getD q []).length → 0 ≤ (ts.getD q []).getD k 0 ∧ (ts.getD q []).getD k 0 < n := fun k hk => by
  have hle := cat_le ts (show q + 1 ≤ m from hq)
  rw [cat_len] at hle
  simp only [ordAll, Bool.and_eq_true] at h
  have h1 := ord_rng (allOk_at _ _ h.2 ((cat ts q).length + k) (by omega))
  rw [cat_at ts hq hk] at h1
  exact h1
set_option maxHeartbeats 8000000 in
set_option maxRecDepth 20000 in
theorem sTripsOk (A : Option Addr) (n c : Nat) (xs : List ShopR) (B : Option Addr) (m d : Nat) (ts : List IntSR) (room : Int) (w : World) (hn : n ≤ maxLen) (hx : ReadsShop w A n xs) (hm : m ≤ maxLen) (htt : totTo ts m ≤ 1048576) (ht : ReadsIntS w B m ts) : Calls Try.prog 11 #[.slice A n c, .slice B m d, .int .i64 room] w (Val (.bool (tripsV n xs m ts room)) w) := by
  obtain ⟨i0, hi0, hz0, hz1, hz2⟩ := info_parts infoB
  have HV : Hid (tripsV n xs m ts room = (shopsB n xs && (inB room 1 100 && (ordAll n m ts && allOk (rowOk xs ts room) m)))) := Lib.hid rfl
  have HXX := Lib.hid hx
  have HTT := Lib.hid ht
  have hcm : (cat ts m).length ≤ 1048576 := by have := cat_tot ts m; omega
  go_enter Try.func11, Try.ntmps11
  go_wp2_with fail
  refine (sShopsOk A n c xs _ hn hx).mono ?_
  rintro _ w1 ⟨rfl, hb1⟩
  cases h1 : shopsB n xs
  · have HF : Hid (tripsV n xs m ts room = false) := Lib.hid (by rw [HV.out, h1]; rfl)
    go_wp2
    go_ret
    exact Val.mk' (v_bool HF.out.symm) (by (repeat (first | exact In.refl _ | assumption | apply In.alloc | apply In.drewN | apply In.drew | (refine In.step ?_ (by assumption)))))
  go_wp2_with fail
  refine (sIn room 1 100 _).mono ?_
  rintro _ _ ⟨rfl, rfl⟩
  cases h2 : inB room 1 100
  · have HF : Hid (tripsV n xs m ts room = false) := Lib.hid (by rw [HV.out, h1, h2]; rfl)
    go_wp2
    go_ret
    exact Val.mk' (v_bool HF.out.symm) (by (repeat (first | exact In.refl _ | assumption | apply In.alloc | apply In.drewN | apply In.drew | (refine In.step ?_ (by assumption)))))
  have HSH := Lib.hid h1
  have hrm := inB_tt h2
  have hn10 := (shops_at h1).1
  have HE : Hid (tripsV n xs m ts room = (ordAll n m ts && allOk (rowOk xs ts room) m)) := Lib.hid (by rw [HV.out, h1, h2]; rfl)
  have HFA : Hid (∀ p, p < (cat ts m).length → ordOk n (cat ts m) p = false → tripsV n xs m ts room = false) := Lib.hid fun p hp h => by rw [HE.out, ordAll_f p hp h]; rfl
  have hI1 : In w.heap.size w w1 := by (repeat (first | exact In.refl _ | assumption | apply In.alloc | apply In.drewN | apply In.drew | (refine In.step ?_ (by assumption))))
  clear hx ht hb1 h1 h2 HV htt
  unfold maxLen at hm
  go_wp2_with (at_make; refine wpList_make_full _ rfl (.tmp 22) (.tmp 22) 61 rfl w1.heap.size 4 i0 (.bool false) 1 Try.underlying61 hi0 hz0 hz1 .i64 .i64 (n : Int) (n : Int) n rfl rfl rfl rfl ?h2 ?h3 ?h4 ?_)
  case h2 => rw [hz2]; omega
  case h3 => unfold maxLen; omega
  case h4 => exact Nat.le_refl _
  intro w2 hown0 hgrow0
  have hb0 : Below w1.heap.size w1 w2 := (Below.refl _ _).grown hgrow0 (Nat.le_refl _) (fun j hj => by cases hj)
  have hse : Seen w2 w1.heap.size n (cat ts m) 0 := seen_made (cat ts m) (by rw [toList_madeCells_one] at hown0; exact hown0)
  have i1 : In w.heap.size w w2 := hI1.step hb0
  have hgw : w.heap.size ≤ w1.heap.size := hI1.size
  clear hgrow0 hown0 hb0 hI1
  generalize w1.heap.size = g at *
  generalize hos : cat ts m = os at *
  have HOS := Lib.hid hos
  clear hos
  go_wp2
  go_loopw [8, 9] (fun e i wr => ∃ t : Nat, t ≤ m ∧ i = .int .i64 t ∧ e = .int .i64 ((cat ts t).length : Nat) ∧ (cat ts t).length ≤ os.length ∧ (∀ p, p < (cat ts t).length → ordOk n os p = true) ∧ (∀ q, q < t → rowOk xs ts room q = true) ∧ Seen wr g n os (cat ts t).length ∧ In w.heap.size w wr) (fun _ i _ => m - (intOf i).toNat)
  case atStart => exact ⟨0, Nat.zero_le _, rfl, rfl, Nat.zero_le _, fun p hp => absurd hp (Nat.not_lt_zero _), fun q hq => absurd hq (Nat.not_lt_zero _), hse, i1⟩
  case round =>
    clear hse i1
    obtain ⟨t, htm, rfl, rfl, hlo, ho, hro, hse, hi⟩ := hrel
    have HO := Lib.hid ho
    have HRO := Lib.hid hro
    clear ho hro
    by_cases hlt : t < m
    · obtain ⟨b, rfl, C, c', h0w, g1, g2, hnn, hrw⟩ := HTT.out.2 t hlt
      have h0 := cell_in h0w hi
      have H0 := Lib.hid h0w
      have HCL := Lib.hid (cat_len ts t)
      have hcl2 := cat_le ts (show t + 1 ≤ m from hlt)
      rw [cat_len, HOS.out] at hcl2
      have HAT : Hid (∀ k, k < (ts.getD t []).length → os.getD ((cat ts t).length + k) 0 = (ts.getD t []).getD k 0) := Lib.hid fun k hk => by rw [← HOS.out]; exact cat_at ts hlt hk
      have HK : Hid (rowOk xs ts room t = decide (rowS xs (ts.getD t []) (ts.getD t []).length ≤ room)) := Lib.hid rfl
      generalize ts.getD t [] = r at *
      generalize (cat ts t).length = L at *
      have HRW := Lib.hid hrw
      clear g1 g2 hnn hrw h0w
      go_wp2
      clear h0
      go_loopw [8, 10, 11] (fun e s i wr => ∃ k : Nat, k ≤ r.length ∧ i = .int .i64 k ∧ e = .int .i64 ((L + k : Nat) : Int) ∧ s = .int .i64 (rowS xs r k) ∧ (∀ p, p < L + k → ordOk n os p = true) ∧ Seen wr g n os (L + k) ∧ In w.heap.size w wr) (fun _ _ i _ => r.length - (intOf i).toNat)
      case atStart => exact ⟨0, Nat.zero_le _, rfl, rfl, rfl, HO.out, hse, hi⟩
      case round =>
        clear hse hi
        obtain ⟨k, hk, rfl, rfl, rfl, ho, hse, hi⟩ := hrel
        have HOK := Lib.hid ho
        have hin : ∀ i, i < k → 0 ≤ r.getD i 0 ∧ r.getD i 0 < n := fun i hi => by
          have h1 := ord_rng (ho (L + i) (by omega))
          rw [HAT.out i (by omega)] at h1
          exact h1
        have hsb := rowS_in HSH.out hin
        have hpn := seen_len ho
        have h0 := cell_in H0.out hi
        clear ho hin
        by_cases hlt2 : k < r.length
        · obtain ⟨b2, rfl, hb⟩ := (HRW.out.below hi.below (Nat.le_refl _)).2 k hlt2
          have HAK := Lib.hid (HAT.out k hlt2)
          have HFK : Hid (ordOk n os (L + k) = false → tripsV n xs m ts room = false) := Lib.hid (HFA.out (L + k) (by omega))
          have HOD : Hid (ordOk n os (L + k) = (inB (r.getD k 0) 0 ((n : Int) - 1) && !(seenB os (L + k) (r.getD k 0)))) := Lib.hid (by rw [ordOk, HAK.out])
          have HS1 : Hid (rowS xs r (k + 1) = rowS xs r k + (xs.getD (r.getD k 0).toNat z21).f1) := Lib.hid rfl
          generalize rowS xs r k = s at *
          generalize r.getD k 0 = y at *
          cases hI : inB y 0 ((n : Int) - 1)
          · have HF := Lib.hid (HFK.out (by rw [HOD.out, hI]; rfl))
            go_wp2_with (first | (go_at_call 48; refine (sIn _ _ _ _).mono ?_; rintro e w' ⟨rfl, rfl⟩) | (go_at_call 57; refine (iIn _ _ _ _).mono ?_; rintro e w' ⟨rfl, rfl⟩))
            go_ret
            exact Val.mk' (v_bool HF.out.symm) (by (repeat (first | exact In.refl _ | assumption | apply In.alloc | apply In.drewN | apply In.drew | (refine In.step ?_ (by assumption)))))
          obtain ⟨y1, y2⟩ := inB_tt hI
          obtain ⟨Y, rfl⟩ : ∃ Y : Nat, y = (Y : Int) := ⟨y.toNat, by omega⟩
          simp only [Int.toNat_natCast] at HS1
          have hYn : Y < n := by omega
          have ct := hse.cell Y hYn
          have ft := hse.free Y
          cases hB : seenB os (L + k) Y
          · have HT : Hid (ordOk n os (L + k) = true) := Lib.hid (by rw [HOD.out, hI, hB]; rfl)
            rw [hB] at ct
            have hst := hse.set_ Y HAK.out hYn
            have hi2 : In w.heap.size w (wr.setCell ⟨g, Y, none⟩ (.bool true)) := hi.set_ (p := ⟨g, Y, none⟩) hgw _
            have hlv := loaves_in HSH.out hYn
            obtain ⟨a, rfl, ca0, ca1⟩ := (HXX.out.in_ hi2).2 Y hYn
            generalize xs.getD Y z21 = sh at *
            obtain ⟨s0, s1⟩ := sh
            simp only at ca0 ca1 hlv HS1
            have HCA := Lib.hid ca1
            have HST := Lib.hid hst
            clear hse hB HFK hst ca0 ca1
            obtain ⟨w9, hw9⟩ : ∃ w9, w9 = wr.setCell ⟨g, Y, none⟩ (.bool true) := ⟨_, rfl⟩
            have HCB := HCA.out
            go_wp2
            go_roundw
            case rel => exact ⟨k + 1, by omega, by go_num, v_int (by omega), v_int HS1.out.symm, fun p hp => by
                by_cases e : p = L + k
                · subst e; exact HT.out
                · exact HOK.out p (by omega), HST.out, hi2⟩
            case measure => simp [intOf]; omega
          · have HF := Lib.hid (HFK.out (by rw [HOD.out, hI, hB]; rfl))
            rw [hB] at ct
            go_wp2_with (first | (go_at_call 48; refine (sIn _ _ _ _).mono ?_; rintro e w' ⟨rfl, rfl⟩) | (go_at_call 57; refine (iIn _ _ _ _).mono ?_; rintro e w' ⟨rfl, rfl⟩))
            go_ret
            exact Val.mk' (v_bool HF.out.symm) (by (repeat (first | exact In.refl _ | assumption | apply In.alloc | apply In.drewN | apply In.drew | (refine In.step ?_ (by assumption)))))
        · obtain rfl : k = r.length := by omega
          generalize rowS xs r r.length = s at *
          by_cases hgt : room < s
          · have HF : Hid (tripsV n xs m ts room = false) := Lib.hid (by rw [HE.out, allOk_f _ _ t hlt (by rw [HK.out]; simp; omega), Bool.and_false])
            go_wp2
            go_ret
            exact Val.mk' (v_bool HF.out.symm) (by (repeat (first | exact In.refl _ | assumption | apply In.alloc | apply In.drewN | apply In.drew | (refine In.step ?_ (by assumption)))))
          · have HT : Hid (rowOk xs ts room t = true) := Lib.hid (by rw [HK.out]; simp; omega)
            have hle2 : s ≤ room := by omega
            go_wp2
            go_roundw
            case rel => exact ⟨t + 1, by omega, by go_num, v_int (by rw [HCL.out]), by rw [HCL.out]; omega, by rw [HCL.out]; exact HOK.out, fun q hq => by
                by_cases e : q = t
                · subst e; exact HT.out
                · exact HRO.out q (by omega), by rw [HCL.out]; exact hse, hi⟩
            case measure => simp [intOf]; omega
    · obtain rfl : t = m := by omega
      have HEE : Hid (tripsV n xs t ts room = decide ((cat ts t).length = n)) := Lib.hid (by
        have h := allOk_t _ _ HO.out
        rw [← HOS.out] at h
        rw [HE.out, allOk_t _ _ HRO.out, ordAll, h]; simp)
      generalize (cat ts t).length = L at *
      go_wp2
      go_ret
      exact Val.mk' (v_bool (by rw [HEE.out, Bool.eq_iff_iff, beq_iff_eq, decide_eq_true_eq]; omega)) (by (repeat (first | exact In.refl _ | assumption | apply In.alloc | apply In.drewN | apply In.drew | (refine In.step ?_ (by assumption)))))
def rowM (xs : List ShopR) (r : List Int) : Nat → Int
  | 0 => 0
  | k + 1 => if rowM xs r k < (xs.getD (r.getD k 0).toNat z21).f0 then (xs.getD (r.getD k 0).toNat z21).f0 else rowM xs r k
def wayT (xs : List ShopR) (ts : List IntSR) (t : Nat) : Int := sumTo (fun q => 2 * rowM xs (ts.getD q []) (ts.getD q []).length) t
def wayV (n : Nat) (xs : List ShopR) (m : Nat) (ts : List IntSR) : Int := if tripsV n xs m ts 100 then wayT xs ts m else -1
theorem rowM_in {n : Nat} {xs : List ShopR} (h : shopsB n xs = true) {r : List Int} {k : Nat} (hr : ∀ i, i < k → 0 ≤ r.getD i 0 ∧ r.getD i 0 < n) : 0 ≤ rowM xs r k ∧ rowM xs r k ≤ 1000 := by
  induction k with
  | zero => simp [rowM]
  | succ k ih =>
    have h1 := ih fun i hi => hr i (by omega)
    have h2 := hr k (by omega)
    have h3 := loaves_in h (i := (r.getD k 0).toNat) (by omega)
    rw [rowM]
    split <;> omega
theorem wayT_in {n m : Nat} {xs : List ShopR} {ts : List IntSR} (h : shopsB n xs = true) (ho : ordAll n m ts = true) {t : Nat} (ht : t ≤ m) : 0 ≤ wayT xs ts t ∧ wayT xs ts t ≤ t * 2000 :=
  sumTo_bd _ 2000 t fun q hq => by
    have := rowM_in h (rows_in ho (q := q) (by omega))
    show 0 ≤ 2 * rowM xs (ts.getD q []) (ts.getD q []).length ∧ 2 * rowM xs (ts.getD q []) (ts.getD q []).length ≤ 2000
    omega
set_option maxHeartbeats 8000000 in
set_option maxRecDepth 20000 in
theorem sWayOf (A : Option Addr) (n c : Nat) (xs : List ShopR) (B : Option Addr) (m d : Nat) (ts : List IntSR) (w : World) (hn : n ≤ maxLen) (hx : ReadsShop w A n xs) (hm : m ≤ maxLen) (htt : totTo ts m ≤ 1048576 ∧ (m : Int) ≤ 1048576) (ht : ReadsIntS w B m ts) : Calls Try.prog 17 #[.slice A n c, .slice B m d] w (Val (.int .i64 (wayV n xs m ts)) w) := by
  obtain ⟨htt, hcl⟩ := htt
  have HV : Hid (wayV n xs m ts = if tripsV n xs m ts 100 then wayT xs ts m else -1) := Lib.hid rfl
  have HXX := Lib.hid hx
  have HTT := Lib.hid ht
  have hcm : (cat ts m).length ≤ 1048576 := by have := cat_tot ts m; omega
  go_enter Try.func17, Try.ntmps17
  go_wp2_with fail
  refine (sTripsOk A n c xs B m d ts 100 _ hn hx hm htt ht).mono ?_
  rintro _ w1 ⟨rfl, hb1⟩
  cases h1 : tripsV n xs m ts 100
  · have HF : Hid (wayV n xs m ts = -1) := Lib.hid (by rw [HV.out, h1]; rfl)
    go_wp2
    go_ret
    exact Val.mk' (v_int HF.out.symm) (by (repeat (first | exact In.refl _ | assumption | apply In.alloc | apply In.drewN | apply In.drew | (refine In.step ?_ (by assumption)))))
  have HE : Hid (wayV n xs m ts = wayT xs ts m) := Lib.hid (by rw [HV.out, h1]; rfl)
  simp only [tripsV, Bool.and_eq_true] at h1
  have HSH := Lib.hid h1.1
  have HOA := Lib.hid h1.2.2.1
  have hI1 : In w.heap.size w w1 := by (repeat (first | exact In.refl _ | assumption | apply In.alloc | apply In.drewN | apply In.drew | (refine In.step ?_ (by assumption))))
  have HTW := Lib.hid (HTT.out.in_ hI1)
  have HXW := Lib.hid (HXX.out.in_ hI1)
  clear hx ht hb1 h1 HV htt
  unfold maxLen at hm
  go_wp2
  go_loop [5, 6] (fun e i => ∃ t : Nat, t ≤ m ∧ i = .int .i64 t ∧ e = .int .i64 (wayT xs ts t)) (fun _ i => m - (intOf i).toNat)
  case atStart => exact ⟨0, Nat.zero_le _, rfl, rfl⟩
  case round =>
    obtain ⟨t, htm, rfl, rfl⟩ := hrel
    have hwb := wayT_in HSH.out HOA.out htm
    by_cases hlt : t < m
    · obtain ⟨b, rfl, C, c', h0, g1, g2, hnn, hr⟩ := HTW.out.2 t hlt
      have hle := cat_le ts (show t + 1 ≤ m from hlt)
      rw [cat_len] at hle
      have HIN := Lib.hid (rows_in HOA.out hlt)
      have HW1 : Hid (wayT xs ts (t + 1) = wayT xs ts t + 2 * rowM xs (ts.getD t []) (ts.getD t []).length) := Lib.hid rfl
      generalize wayT xs ts t = W at *
      generalize ts.getD t [] = r at *
      have HR := Lib.hid hr
      have hrl : r.length ≤ 1048576 := by omega
      clear g1 g2 hnn hr hle
      go_wp2
      skip
      go_loop [7, 8] (fun s i => ∃ k : Nat, k ≤ r.length ∧ i = .int .i64 k ∧ s = .int .i64 (rowM xs r k)) (fun _ i => r.length - (intOf i).toNat)
      case atStart => exact ⟨0, Nat.zero_le _, rfl, rfl⟩
      case round =>
        obtain ⟨k, hk, rfl, rfl⟩ := hrel
        have hsb := rowM_in HSH.out (r := r) (k := k) fun i hi => HIN.out i (by omega)
        by_cases hlt2 : k < r.length
        · obtain ⟨b2, rfl, hb⟩ := HR.out.2 k hlt2
          have hy := HIN.out k hlt2
          have HS1 : Hid (rowM xs r (k + 1) = if rowM xs r k < (xs.getD (r.getD k 0).toNat z21).f0 then (xs.getD (r.getD k 0).toNat z21).f0 else rowM xs r k) := Lib.hid rfl
          generalize rowM xs r k = s at *
          generalize r.getD k 0 = y at *
          obtain ⟨Y, rfl⟩ : ∃ Y : Nat, y = (Y : Int) := ⟨y.toNat, by omega⟩
          simp only [Int.toNat_natCast] at HS1
          have hYn : Y < n := by omega
          have hlv := loaves_in HSH.out hYn
          obtain ⟨a, rfl, ca0, ca1⟩ := HXW.out.2 Y hYn
          generalize xs.getD Y z21 = sh at *
          obtain ⟨s0, s1⟩ := sh
          simp only at ca0 ca1 hlv HS1
          by_cases hgt : s < s0
          · have HS2 := Lib.hid (HS1.out.trans (if_pos hgt))
            go_wp2
            go_round
            case rel => exact ⟨k + 1, by omega, by go_num, v_int HS2.out.symm⟩
            case measure => simp [intOf]; omega
          · have HS2 := Lib.hid (HS1.out.trans (if_neg hgt))
            go_wp2
            go_round
            case rel => exact ⟨k + 1, by omega, by go_num, v_int HS2.out.symm⟩
            case measure => simp [intOf]; omega
        · obtain rfl : k = r.length := by omega
          generalize rowM xs r r.length = s at *
          go_wp2
          go_round
          case rel => exact ⟨t + 1, by omega, by go_num, v_int HW1.out.symm⟩
          case measure => simp [intOf]; omega
    · obtain rfl : t = m := by omega
      go_wp2
      go_ret
      exact Val.mk' (v_int HE.out.symm) (by (repeat (first | exact In.refl _ | assumption | apply In.alloc | apply In.drewN | apply In.drew | (refine In.step ?_ (by assumption)))))
set_option maxHeartbeats 8000000 in
set_option maxRecDepth 20000 in
theorem iWayOf (A : Option Addr) (n c : Nat) (xs : List ShopR) (B : Option Addr) (m d : Nat) (ts : List IntSR) (w : World) (hn : n ≤ maxLen) (hx : ReadsShop w A n xs) (hm : m ≤ maxLen) (htt : totTo ts m ≤ 1048576 ∧ (m : Int) ≤ 1048576) (ht : ReadsIntS w B m ts) : Calls Try.prog 18 #[.slice A n c, .slice B m d] w (Val (.int .i64 (wayV n xs m ts)) w) := by
  obtain ⟨htt, hcl⟩ := htt
  have HV : Hid (wayV n xs m ts = if tripsV n xs m ts 100 then wayT xs ts m else -1) := Lib.hid rfl
  have HXX := Lib.hid hx
  have HTT := Lib.hid ht
  have hcm : (cat ts m).length ≤ 1048576 := by have := cat_tot ts m; omega
  go_enter Try.func18, Try.ntmps18
  go_wp2_with fail
  refine (iTripsOk A n c xs B m d ts 100 _ hn hx hm htt ht).mono ?_
  rintro _ w1 ⟨rfl, hb1⟩
  cases h1 : tripsV n xs m ts 100
  · have HF : Hid (wayV n xs m ts = -1) := Lib.hid (by rw [HV.out, h1]; rfl)
    go_wp2
    go_ret
    exact Val.mk' (v_int HF.out.symm) (by (repeat (first | exact In.refl _ | assumption | apply In.alloc | apply In.drewN | apply In.drew | (refine In.step ?_ (by assumption)))))
  have HE : Hid (wayV n xs m ts = wayT xs ts m) := Lib.hid (by rw [HV.out, h1]; rfl)
  simp only [tripsV, Bool.and_eq_true] at h1
  have HSH := Lib.hid h1.1
  have HOA := Lib.hid h1.2.2.1
  have hI1 : In w.heap.size w w1 := by (repeat (first | exact In.refl _ | assumption | apply In.alloc | apply In.drewN | apply In.drew | (refine In.step ?_ (by assumption))))
  have HTW := Lib.hid (HTT.out.in_ hI1)
  have HXW := Lib.hid (HXX.out.in_ hI1)
  clear hx ht hb1 h1 HV htt
  unfold maxLen at hm
  go_wp2
  go_loop [5, 17] (fun e i => ∃ t : Nat, t ≤ m ∧ i = .int .i64 t ∧ e = .int .i64 (wayT xs ts t)) (fun _ i => m - (intOf i).toNat)
  case atStart => exact ⟨0, Nat.zero_le _, rfl, rfl⟩
  case round =>
    obtain ⟨t, htm, rfl, rfl⟩ := hrel
    have hwb := wayT_in HSH.out HOA.out htm
    by_cases hlt : t < m
    · obtain ⟨b, rfl, C, c', h0, g1, g2, hnn, hr⟩ := HTW.out.2 t hlt
      have hle := cat_le ts (show t + 1 ≤ m from hlt)
      rw [cat_len] at hle
      have HIN := Lib.hid (rows_in HOA.out hlt)
      have HW1 : Hid (wayT xs ts (t + 1) = wayT xs ts t + 2 * rowM xs (ts.getD t []) (ts.getD t []).length) := Lib.hid rfl
      generalize wayT xs ts t = W at *
      generalize ts.getD t [] = r at *
      have HR := Lib.hid hr
      have hrl : r.length ≤ 1048576 := by omega
      clear g1 g2 hnn hr hle
      go_wp2
      clear h0
      go_loop [8, 23] (fun s i => ∃ k : Nat, k ≤ r.length ∧ i = .int .i64 k ∧ s = .int .i64 (rowM xs r k)) (fun _ i => r.length - (intOf i).toNat)
      case atStart => exact ⟨0, Nat.zero_le _, rfl, rfl⟩
      case round =>
        obtain ⟨k, hk, rfl, rfl⟩ := hrel
        have hsb := rowM_in HSH.out (r := r) (k := k) fun i hi => HIN.out i (by omega)
        by_cases hlt2 : k < r.length
        · obtain ⟨b2, rfl, hb⟩ := HR.out.2 k hlt2
          have hy := HIN.out k hlt2
          have HS1 : Hid (rowM xs r (k + 1) = if rowM xs r k < (xs.getD (r.getD k 0).toNat z21).f0 then (xs.getD (r.getD k 0).toNat z21).f0 else rowM xs r k) := Lib.hid rfl
          generalize rowM xs r k = s at *
          generalize r.getD k 0 = y at *
          obtain ⟨Y, rfl⟩ : ∃ Y : Nat, y = (Y : Int) := ⟨y.toNat, by omega⟩
          simp only [Int.toNat_natCast] at HS1
          have hYn : Y < n := by omega
          have hlv := loaves_in HSH.out hYn
          obtain ⟨a, rfl, ca0, ca1⟩ := HXW.out.2 Y hYn
          generalize xs.getD Y z21 = sh at *
          obtain ⟨s0, s1⟩ := sh
          simp only at ca0 ca1 hlv HS1
          by_cases hgt : s < s0
          · have HS2 := Lib.hid (HS1.out.trans (if_pos hgt))
            go_wp2
            go_round
            case rel => exact ⟨k + 1, by omega, by go_num, v_int HS2.out.symm⟩
            case measure => simp [intOf]; omega
          · have HS2 := Lib.hid (HS1.out.trans (if_neg hgt))
            go_wp2
            go_round
            case rel => exact ⟨k + 1, by omega, by go_num, v_int HS2.out.symm⟩
            case measure => simp [intOf]; omega
        · obtain rfl : k = r.length := by omega
          generalize rowM xs r r.length = s at *
          go_wp2
          go_round
          case rel => exact ⟨t + 1, by omega, by go_num, v_int HW1.out.symm⟩
          case measure => simp [intOf]; omega
    · obtain rfl : t = m := by omega
      go_wp2
      go_ret
      exact Val.mk' (v_int HE.out.symm) (by (repeat (first | exact In.refl _ | assumption | apply In.alloc | apply In.drewN | apply In.drew | (refine In.step ?_ (by assumption)))))
end Go.Proofs.Ytkibabajalajeaa
