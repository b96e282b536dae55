/- Chapter 31: Chooser. -/
import Derived.Test.YtmkfnhgaiheckaaC31
namespace Go.Proofs.Ytmkfnhgaiheckaa
open Go.ChangeShapes Go.WideShapes Go.ChangeAt Go.RowKit
set_option linter.unusedVariables false
set_option linter.unusedSimpArgs false
set_option maxHeartbeats 2000000

theorem wide_at {n : Nat} {xs : List Int} (hs : ∀ i, i < n → 0 ≤ xs.getD i 0 ∧ xs.getD i 0 ≤ 1000) : ∀ i, i < n → 0 ≤ xs.getD i 0 ∧ xs.getD i 0 ≤ 1000000000 := fun i hi => by have := hs i hi; omega
theorem sum_hi (A : Option Addr) (n c k : Nat) (xs : List Int) (hs : ∀ i, i < n → 0 ≤ xs.getD i 0 ∧ xs.getD i 0 ≤ 1000) (hn : n ≤ 40) (hk : k ≤ n) (W : World) (h : ReadsI W A n xs) : Calls Try.prog 177 #[.slice A k c] W (Same (i64 (lsum xs k)) W) := by
  rw [← lsum_take]
  exact sl02Sum A k c (xs.take k) W (by omega) (fun i hi => by
    have := hs i (by omega)
    have e : (xs.take k).getD i 0 = xs.getD i 0 := by simp [List.getD_eq_getElem?_getD, hi]
    rw [e]; omega) (reads_hi h k hk)
theorem sum_lo (A : Option Addr) (n c k : Nat) (xs : List Int) (hs : ∀ i, i < n → 0 ≤ xs.getD i 0 ∧ xs.getD i 0 ≤ 1000) (hn : n ≤ 40) (hk : k ≤ n) (hc : n ≤ c) (W : World) (h : ReadsI W A n xs) : Calls Try.prog 177 #[.slice (loA A c k) (n - k) (c - k)] W (Same (i64 (lsum xs n - lsum xs k)) W) := by
  rw [← lsum_rest hk]
  exact sl02Sum _ (n - k) (c - k) (xs.drop k) W (by omega) (fun i hi => by
    have := hs (k + i) (by omega)
    have e : (xs.drop k).getD i 0 = xs.getD (k + i) 0 := by simp [List.getD_eq_getElem?_getD]
    rw [e]; omega) (reads_lo h k hk hc)
theorem iChooser (A : Option Addr) (n c : Nat) (xs : List Int) (B : Option Addr) (m d : Nat) (ys : List Int) (w : World) (hn : n ≤ maxLen) (hcp : n ≤ c) (hcm : c ≤ maxLen) (hx : ReadsI w A n xs) (hm : m ≤ maxLen) (hdp : m ≤ d) (hdm : d ≤ maxLen) (hy : ReadsI w B m ys) : Calls Try.prog 32 #[.slice A n c, .slice B m d] w (Val (chooV n xs m ys) w) := by
  have hn' := hn
  have hm' := hm
  unfold maxLen at hn' hm'
  cases h1 : cakeB n xs
  · have HV : Hid (chooV n xs m ys = .tuple #[.int .i64 (-1), .int .i64 (-1)]) := Lib.hid (by simp [chooV, chooB, h1])
    go_enter Try.func32, Try.ntmps32
    go_wp2_with (first | (go_at_call 95; refine (sIn _ _ _ _).mono ?_; rintro e w' ⟨rfl, rfl⟩) | (go_at_call 105; refine (iIn _ _ _ _).mono ?_; rintro e w' ⟨rfl, rfl⟩) | (go_at_call 36; first | ((with_reducible refine (iCakeOk A n c xs _ hn hx).mono ?_); rintro e w' ⟨rfl, rfl⟩) | ((with_reducible refine (iCakeOk B m d ys _ hm hy).mono ?_); rintro e w' ⟨rfl, rfl⟩)))
    exact bodyPost_ret (v := .tuple #[.int .i64 (-1), .int .i64 (-1)]) (by simp [results, Try.results32, go_sem]) rfl (Val.mk' (by rw [HV.out]) (by (repeat (first | exact In.refl _ | assumption | apply In.alloc | apply In.drewN | apply In.drew | (refine In.step ?_ (by assumption)) | (refine In.set_ ?_ (by (try simp) <;> omega) _)))))
  cases h2 : cakeB m ys
  · have HV : Hid (chooV n xs m ys = .tuple #[.int .i64 (-1), .int .i64 (-1)]) := Lib.hid (by simp [chooV, chooB, h2])
    go_enter Try.func32, Try.ntmps32
    go_wp2_with (first | (go_at_call 95; refine (sIn _ _ _ _).mono ?_; rintro e w' ⟨rfl, rfl⟩) | (go_at_call 105; refine (iIn _ _ _ _).mono ?_; rintro e w' ⟨rfl, rfl⟩) | (go_at_call 36; first | ((with_reducible refine (iCakeOk A n c xs _ hn hx).mono ?_); rintro e w' ⟨rfl, rfl⟩) | ((with_reducible refine (iCakeOk B m d ys _ hm hy).mono ?_); rintro e w' ⟨rfl, rfl⟩)))
    exact bodyPost_ret (v := .tuple #[.int .i64 (-1), .int .i64 (-1)]) (by simp [results, Try.results32, go_sem]) rfl (Val.mk' (by rw [HV.out]) (by (repeat (first | exact In.refl _ | assumption | apply In.alloc | apply In.drewN | apply In.drew | (refine In.step ?_ (by assumption)) | (refine In.set_ ?_ (by (try simp) <;> omega) _)))))
  by_cases hnm : n = m
  case neg =>
    have HV : Hid (chooV n xs m ys = .tuple #[.int .i64 (-1), .int .i64 (-1)]) := Lib.hid (by simp [chooV, chooB, hnm])
    have hne : ((n : Int) == (m : Int)) = false := by simp; omega
    have hne2 : ((n : Int) != (m : Int)) = true := by simp; omega
    clear hnm
    go_enter Try.func32, Try.ntmps32
    go_wp2_with (first | (go_at_call 95; refine (sIn _ _ _ _).mono ?_; rintro e w' ⟨rfl, rfl⟩) | (go_at_call 105; refine (iIn _ _ _ _).mono ?_; rintro e w' ⟨rfl, rfl⟩) | (go_at_call 36; first | ((with_reducible refine (iCakeOk A n c xs _ hn hx).mono ?_); rintro e w' ⟨rfl, rfl⟩) | ((with_reducible refine (iCakeOk B m d ys _ hm hy).mono ?_); rintro e w' ⟨rfl, rfl⟩)))
    exact bodyPost_ret (v := .tuple #[.int .i64 (-1), .int .i64 (-1)]) (by simp [results, Try.results32, go_sem]) rfl (Val.mk' (by rw [HV.out]) (by (repeat (first | exact In.refl _ | assumption | apply In.alloc | apply In.drewN | apply In.drew | (refine In.step ?_ (by assumption)) | (refine In.set_ ?_ (by (try simp) <;> omega) _)))))
  subst hnm
  obtain ⟨n1, n2, hs⟩ := cake_at h1
  obtain ⟨m1, m2, ht⟩ := cake_at h2
  have HS := Lib.hid hs
  have HT := Lib.hid ht
  obtain ⟨p1, p2, p3⟩ := hb_in xs n n
  obtain ⟨k, hk⟩ : ∃ k : Nat, (hb xs n n).1 = (k : Int) := ⟨(hb xs n n).1.toNat, by omega⟩
  have hkn : k ≤ n := by omega
  have HV : Hid (chooV n xs n ys = if lsum ys n - lsum ys k ≤ lsum ys k then .tuple #[.int .i64 (lsum xs n - lsum xs k), .int .i64 (lsum ys k)] else .tuple #[.int .i64 (lsum xs k), .int .i64 (lsum ys n - lsum ys k)]) := Lib.hid (by simp [chooV, chooB, h1, h2, hk])
  have HHV : Hid (halfV n xs = .tuple #[.int .i64 (k : Int), .int .i64 (hb xs n n).2]) := Lib.hid (by simp [halfV, h1, hk])
  have hlk1 : 0 ≤ lsum xs k := (lsum_in (xs := xs) (n := k) 1000 fun i hi => hs i (by omega)).1
  have hlk2 : lsum xs k ≤ lsum xs n := sumTo_mono (gI xs) k n (by omega) fun i hi => (hs i hi).1
  have hmk1 : 0 ≤ lsum ys k := (lsum_in (xs := ys) (n := k) 1000 fun i hi => ht i (by omega)).1
  have hmk2 : lsum ys k ≤ lsum ys n := sumTo_mono (gI ys) k n (by omega) fun i hi => (ht i hi).1
  have hT1 := (lsum_in (xs := xs) (n := n) 1000 hs).2
  have hT2 := (lsum_in (xs := ys) (n := n) 1000 ht).2
  clear hs ht p1 p2 p3 hk
  have H1 := Lib.hid (fun W (h : ReadsI W A n xs) => iworthOfSides A n c k xs W (by omega) (wide_at HS.out) hkn hcp hcm h)
  have H2 := Lib.hid (fun W (h : ReadsI W B n ys) => iworthOfSides B n d k ys W (by omega) (wide_at HT.out) hkn hdp hdm h)
  generalize lsum xs k = l at *
  generalize lsum xs n = T at *
  generalize lsum ys k = r at *
  generalize lsum ys n = U at *
  generalize (hb xs n n).2 = v2 at *
  go_enter Try.func32, Try.ntmps32
  go_wp2_with (first | (go_at_call 95; refine (sIn _ _ _ _).mono ?_; rintro e w' ⟨rfl, rfl⟩) | (go_at_call 105; refine (iIn _ _ _ _).mono ?_; rintro e w' ⟨rfl, rfl⟩) | (go_at_call 36; first | ((with_reducible refine (iCakeOk A n c xs _ hn hx).mono ?_); rintro e w' ⟨rfl, rfl⟩) | ((with_reducible refine (iCakeOk B n d ys _ hm hy).mono ?_); rintro e w' ⟨rfl, rfl⟩)))
  refine (iHalfCut A n c xs _ hn hcp hcm hx).mono ?_
  rintro _ w1 ⟨rfl, hb1⟩
  rw [HHV.out]
  have i1 : In w.heap.size w w1 := In.step (by (repeat (first | exact In.refl _ | assumption | apply In.alloc | apply In.drewN | apply In.drew | (refine In.step ?_ (by assumption))))) hb1
  clear hb1
  go_wp2_with fail
  refine (H1.out _ (reads_in hx i1)).mono ?_
  rintro _ w2 ⟨rfl, hb2⟩
  have i2 : In w.heap.size w w2 := In.step (by (repeat (first | exact In.refl _ | assumption | apply In.alloc | apply In.drewN | apply In.drew | (refine In.step ?_ (by assumption))))) hb2
  clear hb2 i1
  go_wp2_with fail
  refine (H2.out _ (reads_in hy i2)).mono ?_
  rintro _ w3 ⟨rfl, hb3⟩
  have i3 : In w.heap.size w w3 := In.step (by (repeat (first | exact In.refl _ | assumption | apply In.alloc | apply In.drewN | apply In.drew | (refine In.step ?_ (by assumption))))) hb3
  clear hb3 i2
  by_cases hc : U - r ≤ r
  · have HV2 : Hid (chooV n xs n ys = .tuple #[.int .i64 (T - l), .int .i64 r]) := Lib.hid (by rw [HV.out, if_pos hc])
    go_wp2
    exact bodyPost_ret (v := .tuple #[.int .i64 (T - l), .int .i64 r]) (by simp [results, Try.results32, go_sem]) rfl (Val.mk' (by rw [HV2.out]) (by (repeat (first | exact In.refl _ | assumption | apply In.alloc | apply In.drewN | apply In.drew | (refine In.step ?_ (by assumption)) | (refine In.set_ ?_ (by (try simp) <;> omega) _)))))
  · have HV2 : Hid (chooV n xs n ys = .tuple #[.int .i64 l, .int .i64 (U - r)]) := Lib.hid (by rw [HV.out, if_neg hc])
    go_wp2
    exact bodyPost_ret (v := .tuple #[.int .i64 l, .int .i64 (U - r)]) (by simp [results, Try.results32, go_sem]) rfl (Val.mk' (by rw [HV2.out]) (by (repeat (first | exact In.refl _ | assumption | apply In.alloc | apply In.drewN | apply In.drew | (refine In.step ?_ (by assumption)) | (refine In.set_ ?_ (by (try simp) <;> omega) _)))))
end Go.Proofs.Ytmkfnhgaiheckaa
