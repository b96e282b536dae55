/- Chapter 14: IsGrowing. -/
import Derived.Test.YtolblfcpiddmbaaC14
import Derived.Test.YtolblfcpiddmbaaOwnI
import Derived.Deep.QuietTactic
import Derived.BigQuiet
import Derived.Deep.Fields
namespace Go.Proofs.Ytolblfcpiddmbaa
open Go.ChangeShapes Go.WideShapes Go.ChangeAt Go.RowKit
set_option linter.unusedVariables false
set_option linter.unusedSimpArgs false

def lsum (xs : List Int) (n : Nat) : Int := sumTo (gF xs) n
theorem isumOf (A : Option Addr) (n c : Nat) (xs : List Int) (w : World) (hn : n ≤ 1000) (hs : ∀ i, i < n → 0 ≤ xs.getD i 0 ∧ xs.getD i 0 ≤ 10000) (hx : ReadsI w A n xs) : Calls Try.prog 58 #[.slice A n c] w (Same (i64 (lsum xs n)) w) := by
  have HS := Lib.hid hs
  clear hs
  go_enter Try.func58, Try.ntmps58
  go_wp2
  go_loop [3, 8] (fun s i => ∃ k : Nat, k ≤ n ∧ i = .int .i64 k ∧ s = .int .i64 (lsum xs k)) (fun _ i => n - (intOf i).toNat)
  case atStart => exact ⟨0, Nat.zero_le _, rfl, rfl⟩
  case round =>
    obtain ⟨k, hk, rfl, rfl⟩ := hrel
    have hU : lsum xs (k + 1) = lsum xs k + xs.getD k 0 := sumTo_succ (gF xs) k
    have HU := Lib.hid hU
    clear hU
    have hb : 0 ≤ lsum xs k ∧ lsum xs k ≤ k * 10000 := sumTo_bd (gF xs) 10000 k fun i hi => HS.out i (by omega)
    obtain ⟨b1, b2⟩ := hb
    by_cases hlt : k < n
    · obtain ⟨a, rfl, ha⟩ := hx.2 k hlt
      obtain ⟨x1, x2⟩ := HS.out k hlt
      generalize xs.getD k 0 = x at *
      generalize lsum xs k = s at *
      go_wp2
      go_round
      case rel => exact ⟨k + 1, by omega, by go_num, v_int HU.out.symm⟩
      case measure => simp [intOf]; omega
    · obtain rfl : k = n := by omega
      go_wp2
      go_ret
      exact ⟨rfl, rfl⟩
theorem reads_seg {w : World} {a : Addr} {n : Nat} {xs : List Int} (h : ReadsI w (some a) n xs) (off m : Nat) (ho : off + m ≤ n) : ReadsI w (some (a.add off)) m ((xs.drop off).take m) := by
  refine ⟨by rw [List.length_take, List.length_drop, h.1]; omega, fun i hi => ?_⟩
  obtain ⟨a', ha, hc⟩ := h.2 (off + i) (by omega)
  obtain rfl := Option.some.inj ha
  refine ⟨_, rfl, ?_⟩
  rw [Deep.add_add, hc]
  simp [List.getD_eq_getElem?_getD, hi]
def seg (xs : List Int) (off : Nat) : List Int := (xs.drop off).take 7
theorem seg_at (xs : List Int) (off i : Nat) (hi : i < 7) : (seg xs off).getD i 0 = xs.getD (off + i) 0 := by simp [seg, List.getD_eq_getElem?_getD, hi]
def growB (n : Nat) (xs : List Int) : Bool := salesB n xs && decide (14 ≤ n) && decide (lsum (seg xs (n - 14)) 7 < lsum (seg xs (n - 7)) 7)
set_option maxHeartbeats 2000000 in
theorem iIsGrowing (A : Option Addr) (n c : Nat) (xs : List Int) (w : World) (hn : n ≤ maxLen) (hcp : n ≤ c) (hx : ReadsI w A n xs) : Calls Try.prog 15 #[.slice A n c] w (Val (.bool (growB n xs)) w) := by
  have hn' := hn
  unfold maxLen at hn'
  cases h1 : salesB n xs
  · have HV : Hid (growB n xs = false) := Lib.hid (by simp [growB, h1])
    go_enter Try.func15, Try.ntmps15
    go_wp2_with (first | (go_at_call 137; refine (sIn _ _ _ _).mono ?_; rintro e w' ⟨rfl, rfl⟩) | (go_at_call 56; refine (iIn _ _ _ _).mono ?_; rintro e w' ⟨rfl, rfl⟩) | (go_at_call 16; refine (iSalesOk A n c xs _ hn hx).mono ?_; rintro e w' ⟨rfl, rfl⟩) | go_in | (go_end0; simp only []; go_at_K))
    go_ret
    exact Val.mk' (v_bool (by rw [HV.out])) (by (repeat (first | exact In.refl _ | assumption | apply In.alloc | apply In.drewN | apply In.drew | (refine In.step ?_ (by assumption)))))
  by_cases h14 : 14 ≤ n
  rotate_left
  · have HV : Hid (growB n xs = false) := Lib.hid (by simp [growB, h14])
    have h14' : n < 14 := by omega
    go_enter Try.func15, Try.ntmps15
    go_wp2_with (first | (go_at_call 137; refine (sIn _ _ _ _).mono ?_; rintro e w' ⟨rfl, rfl⟩) | (go_at_call 56; refine (iIn _ _ _ _).mono ?_; rintro e w' ⟨rfl, rfl⟩) | (go_at_call 16; refine (iSalesOk A n c xs _ hn hx).mono ?_; rintro e w' ⟨rfl, rfl⟩) | go_in | (go_end0; simp only []; go_at_K))
    go_ret
    exact Val.mk' (v_bool (by rw [HV.out])) (by (repeat (first | exact In.refl _ | assumption | apply In.alloc | apply In.drewN | apply In.drew | (refine In.step ?_ (by assumption)))))
  obtain ⟨s1, s2, s3⟩ := sales_at h1
  obtain ⟨a, rfl, _⟩ := hx.2 0 (by omega)
  obtain ⟨m, hm⟩ : ∃ m, m = n - 14 := ⟨_, rfl⟩
  obtain ⟨k, hk⟩ : ∃ k, k = n - 7 := ⟨_, rfl⟩
  have hr1 : ReadsI w (some (a.add k)) 7 (seg xs k) := reads_seg hx k 7 (by omega)
  have hr2 : ReadsI w (some (a.add m)) 7 (seg xs m) := reads_seg hx m 7 (by omega)
  have HV : Hid (growB n xs = decide (lsum (seg xs m) 7 < lsum (seg xs k) 7)) := Lib.hid (by simp [growB, h1, hm, hk, h14])
  have H1 := Lib.hid (fun W (h : ReadsI W (some (a.add k)) 7 (seg xs k)) => isumOf (some (a.add k)) 7 (c - k) (seg xs k) W (by decide) (fun i hi => by rw [seg_at _ _ _ hi]; exact s3 _ (by omega)) h)
  have H2 := Lib.hid (fun W (h : ReadsI W (some (a.add m)) 7 (seg xs m)) => isumOf (some (a.add m)) 7 (c - m) (seg xs m) W (by decide) (fun i hi => by rw [seg_at _ _ _ hi]; exact s3 _ (by omega)) h)
  have R1 : Hid (ReadsI w (some (a.add k)) 7 (seg xs k)) := Lib.hid hr1
  have R2 : Hid (ReadsI w (some (a.add m)) 7 (seg xs m)) := Lib.hid hr2
  have HSS := Lib.hid (fun W (h : ReadsI W (some a) n xs) => iSalesOk (some a) n c xs W hn h)
  have HX := Lib.hid hx
  have HB := Lib.hid h1
  have hq1 : IntKind.i64.wrap ((n : Int) - 7) = (k : Int) := by rw [show (n : Int) - 7 = (k : Int) by omega]; exact IntWalk.i64_in _ (by omega)
  have hq2 : IntKind.i64.wrap ((n : Int) - 14) = (m : Int) := by rw [show (n : Int) - 14 = (m : Int) by omega]; exact IntWalk.i64_in _ (by omega)
  have hq3 : IntKind.i64.wrap ((k : Int) - 7) = (m : Int) := by rw [show (k : Int) - 7 = (m : Int) by omega]; exact IntWalk.i64_in _ (by omega)
  have hq4 : k ≤ n := by omega
  have hq5 : n - k = 7 := by omega
  have hq6 : k - m = 7 := by omega
  have hq7 : m ≤ k := by omega
  have hq8 : ¬ c = k := by omega
  have hq9 : ¬ c = m := by omega
  have hd : decide ((14 : Int) ≤ (n : Int)) = true := by simp; omega
  have hkc : k ≤ c := by omega
  have hnn : n ≤ 140 := s2
  clear hr1 hr2 s3 hm hk
  generalize lsum (seg xs k) 7 = x at *
  generalize lsum (seg xs m) 7 = y at *
  clear h1 hx
  go_enter Try.func15, Try.ntmps15
  go_wp2_with (first | (go_at_call 137; refine (sIn _ _ _ _).mono ?_; rintro e w' ⟨rfl, rfl⟩) | (go_at_call 56; refine (iIn _ _ _ _).mono ?_; rintro e w' ⟨rfl, rfl⟩) | (go_at_call 16; refine (HSS.out _ HX.out).mono ?_; rintro e w' ⟨rfl, rfl⟩; rw [HB.out]) | go_in | (go_end0; simp only []; go_at_K))
  go_quiet ((go_at_call 58; first | ((with_reducible refine (H1.out _ (R1.out.drewN _)).mono ?_); rintro e w2 ⟨rfl, rfl⟩; exact ⟨rfl, _, rfl⟩) | ((with_reducible refine (H2.out _ (R2.out.drewN _)).mono ?_); rintro e w2 ⟨rfl, rfl⟩; exact ⟨rfl, _, rfl⟩)))
  by_cases hyx : y < x
  all_goals
    go_wp2
    go_ret
    exact Val.mk' (v_bool (by simp [HV.out, hyx])) (by (repeat (first | exact In.refl _ | assumption | apply In.alloc | apply In.drewN | apply In.drew | (refine In.step ?_ (by assumption)))))
end Go.Proofs.Ytolblfcpiddmbaa
