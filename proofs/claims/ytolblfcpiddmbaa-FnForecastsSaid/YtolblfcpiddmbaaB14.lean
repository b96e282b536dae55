/- Chapter 14: BusiestDay, ErrorSum. -/
import Derived.Test.YtolblfcpiddmbaaC14
namespace Go.Proofs.Ytolblfcpiddmbaa
open Go.ChangeShapes Go.WideShapes Go.ChangeAt Go.RowKit
set_option linter.unusedVariables false
set_option linter.unusedSimpArgs false

def dF (n : Nat) (xs : List Int) (d : Nat) : Int := meanR n xs d
def busyV (n : Nat) (xs : List Int) : Int := if salesB n xs then (amax (dF n xs) 7 : Nat) else -1
theorem meanV_R {n : Nat} {xs : List Int} (h : salesB n xs = true) (d : Nat) (hd : d ≤ 6) : meanV n xs d = dF n xs d := by
  simp [meanV, h, inB_t (show (0 : Int) ≤ (d : Int) ∧ (d : Int) ≤ 6 by omega), dF]
def mapTo (f : Nat → Int) : Nat → List Int
  | 0 => []
  | k + 1 => mapTo f k ++ [f k]
theorem mapTo_succ (f : Nat → Int) (k : Nat) : mapTo f (k + 1) = mapTo f k ++ [f k] := rfl
theorem mapTo_len (f : Nat → Int) (k : Nat) : (mapTo f k).length = k := by
  induction k with
  | zero => rfl
  | succ k ih => rw [mapTo_succ, List.length_append, ih]; rfl
theorem mapTo_at (f : Nat → Int) (k i : Nat) (h : i < k) : (mapTo f k).getD i 0 = f i := by
  induction k with
  | zero => omega
  | succ k ih =>
    rw [mapTo_succ, List.getD_eq_getElem?_getD, List.getElem?_append]
    split
    · rename_i h1
      rw [mapTo_len] at h1
      rw [← List.getD_eq_getElem?_getD]; exact ih h1
    · rename_i h1
      rw [mapTo_len] at h1 ⊢
      obtain rfl : i = k := by omega
      simp
set_option maxRecDepth 20000 in
set_option maxHeartbeats 2000000 in
theorem iBusiestDay (A : Option Addr) (n c : Nat) (xs : List Int) (w : World) (hn : n ≤ maxLen) (hx : ReadsI w A n xs) : Calls Try.prog 11 #[.slice A n c] w (Val (i64 (busyV n xs)) w) := by
  obtain ⟨i0, hi0, hz0, hz1, hz2⟩ := info_parts infoI
  cases h1 : salesB n xs
  · have HV : Hid (busyV n xs = -1) := Lib.hid (by simp [busyV, h1])
    go_enter Try.func11, Try.ntmps11
    go_wp2_with (first | (go_at_call 137; refine (sIn _ _ _ _).mono ?_; rintro e w' ⟨rfl, rfl⟩) | (go_at_call 56; refine (iIn _ _ _ _).mono ?_; rintro e w' ⟨rfl, rfl⟩) | (go_at_call 16; refine (iSalesOk A n c xs _ hn hx).mono ?_; rintro e w' ⟨rfl, rfl⟩) | go_in | (go_end0; simp only []; go_at_K))
    go_ret
    exact Val.mk' (v_int HV.out.symm) (by (repeat (first | exact In.refl _ | assumption | apply In.alloc | apply In.drewN | apply In.drew | (refine In.step ?_ (by assumption)))))
  have HV : Hid (busyV n xs = (amax (dF n xs) 7 : Nat)) := Lib.hid (by simp [busyV, h1])
  have HB := Lib.hid h1
  have hown0 : w.ownsRow w.heap.size 3 1 (.slice none 0 0) 0 (iv []) := ⟨rfl, .inl ⟨rfl, rfl⟩⟩
  go_enter Try.func11, Try.ntmps11
  go_wp2_with (first | (go_at_call 137; refine (sIn _ _ _ _).mono ?_; rintro e w' ⟨rfl, rfl⟩) | (go_at_call 56; refine (iIn _ _ _ _).mono ?_; rintro e w' ⟨rfl, rfl⟩) | (go_at_call 16; refine (iSalesOk A n c xs _ hn hx).mono ?_; rintro e w' ⟨rfl, rfl⟩) | go_in | (go_end0; simp only []; go_at_K))
  clear h1
  go_loopw [3, 8] (fun v i wr => ∃ k : Nat, k ≤ 7 ∧ i = .int .i64 k ∧ wr.ownsRow w.heap.size 3 1 v k (iv (mapTo (dF n xs) k)) ∧ In w.heap.size w wr) (fun _ i _ => 7 - (intOf i).toNat)
  case atStart => exact ⟨0, by decide, rfl, hown0, In.refl _⟩
  case round =>
    clear hown0
    obtain ⟨k, hk, rfl, hown, hi⟩ := hrel
    obtain ⟨A1, c1, rfl⟩ := own_shape_i hown
    by_cases hlt : k < 7
    · have HS := Lib.hid (mapTo_succ (dF n xs) k)
      have hk6 : k ≤ 6 := by omega
      have hx' := hx.below hi.below (Nat.le_refl _)
      have F1 : Hid (∀ u ∈ (#[Value.int .i64 (meanR n xs k)] : Array Value).toList, u.oneCell' = true) := Lib.hid (by intro u hu; simp at hu; subst hu; rfl)
      have f12 : k + 1 ≤ maxLen := by unfold maxLen; omega
      have f13 : (k + 1) * 8 ≤ 140737488355328 := by omega
      have hB1 : w.heap.size ≤ wr.heap.size := In.size (B := w.heap.size) (a := w) (by (repeat (first | exact In.refl _ | assumption | apply In.alloc | apply In.drewN | apply In.drew | (refine In.step ?_ (by assumption)))))
      go_wp2_with (first | (go_at_call 137; refine (sIn _ _ _ _).mono ?_; rintro e w' ⟨rfl, rfl⟩) | (go_at_call 56; refine (iIn _ _ _ _).mono ?_; rintro e w' ⟨rfl, rfl⟩) | (go_at_call 54; refine (imeanOn A n c xs k hk6 _ HB.out hx').mono ?_; rintro e w' ⟨rfl, rfl⟩) | (at_builtin; refine wpList_app wr rfl (.tmp 11) (.tmp 15) 24 rfl w.heap.size 3 i0 (.int .i64 0) 1 8 Try.underlying24 hi0 hz0 hz1 hz2 rfl Nat.one_pos (.slice A1 k c1) (k) (iv (mapTo (dF n xs) k)) rfl hown 1 #[.int .i64 (meanR n xs k)] rfl rfl F1.out f12 f13 hB1 ?_; intro v1 w1 hown1 hbw1) | go_in | (go_end0; simp only []; go_at_K))
      have hi1 : In w.heap.size w w1 := In.wide hi hbw1
      have hown2 : w1.ownsRow w.heap.size 3 1 v1 (k + 1) (iv (mapTo (dF n xs) (k + 1))) := by rw [HS.out, iv_app]; exact hown1
      clear hown1 hbw1 hown f12 f13 hB1
      go_wp2
      go_roundw
      case rel => exact ⟨k + 1, by omega, by go_num, hown2, hi1⟩
      case measure => simp [intOf]; omega
    · obtain rfl : k = 7 := by omega
      have hr := reads_own_i hown
      have HG : Hid (gidx (mapTo (dF n xs) 7) 7 = (amax (dF n xs) 7 : Nat)) := Lib.hid (by rw [gidx, if_neg (by decide), amax_congr (gF (mapTo (dF n xs) 7)) (dF n xs) 7 fun i hi => mapTo_at _ _ _ hi])
      go_wp2_with fail
      refine (iGreatest A1 7 c1 _ _ (by unfold maxLen; omega) hr).mono ?_
      rintro _ w2 ⟨rfl, hb2⟩
      rw [HG.out]
      go_wp2
      go_ret
      exact Val.mk' (v_int HV.out.symm) (by (repeat (first | exact In.refl _ | assumption | apply In.alloc | apply In.drewN | apply In.drew | (refine In.step ?_ (by assumption)))))
theorem reads_take {w : World} {A : Option Addr} {n : Nat} {xs : List Int} (h : ReadsI w A n xs) (k : Nat) (hk : k ≤ n) : ReadsI w A k (xs.take k) := by
  refine ⟨by rw [List.length_take, h.1]; omega, fun i hi => ?_⟩
  obtain ⟨a, ha, hc⟩ := h.2 i (by omega)
  refine ⟨a, ha, ?_⟩
  rw [hc]
  simp [List.getD_eq_getElem?_getD, hi]
def nextR (xs : List Int) (k : Nat) : Int := meanV k (xs.take k) ((k : Int) % 7)
def errG (xs : List Int) (i : Nat) : Int := if i < 7 then 0 else max (xs.getD i 0 - nextR xs i) (-(xs.getD i 0 - nextR xs i))
def errV (n : Nat) (xs : List Int) : Int := if salesB n xs then sumTo (errG xs) n else -1
theorem sumTo_zero (g : Nat → Int) (k : Nat) (h : ∀ i, i < k → g i = 0) : sumTo g k = 0 := by
  induction k with
  | zero => rfl
  | succ k ih => rw [sumTo_succ, ih fun i hi => h i (by omega), h k (by omega)]; rfl
theorem nextR_in (xs : List Int) (k : Nat) : -1 ≤ nextR xs k ∧ nextR xs k ≤ 10000 := meanV_in _ _ _
theorem errG_in {n : Nat} {xs : List Int} (h : ∀ i, i < n → 0 ≤ xs.getD i 0 ∧ xs.getD i 0 ≤ 10000) (i : Nat) (hi : i < n) : 0 ≤ errG xs i ∧ errG xs i ≤ 10001 := by
  have h1 := h i hi
  have h2 := nextR_in xs i
  unfold errG
  split <;> omega
theorem iDist (a b : Int) (ha : -1000000000 ≤ a ∧ a ≤ 1000000000) (hb : -1000000000 ≤ b ∧ b ≤ 1000000000) (w : World) : Calls Try.prog 57 #[.int .i64 a, .int .i64 b] w (Same (i64 (max (a - b) (b - a))) w) := by
  by_cases h : a - b < b - a
  all_goals
    go_enter Try.func57, Try.ntmps57
    go_wp2
    go_ret
    exact ⟨ret_int (by omega), rfl⟩
set_option maxRecDepth 20000 in
set_option maxHeartbeats 1000000 in
theorem iErrorSum (A : Option Addr) (n c : Nat) (xs : List Int) (w : World) (hn : n ≤ maxLen) (hcp : n ≤ c) (hx : ReadsI w A n xs) : Calls Try.prog 14 #[.slice A n c] w (Val (i64 (errV n xs)) w) := by
  cases h1 : salesB n xs
  · have HV : Hid (errV n xs = -1) := Lib.hid (by simp [errV, h1])
    go_enter Try.func14, Try.ntmps14
    go_wp2_with (first | (go_at_call 137; refine (sIn _ _ _ _).mono ?_; rintro e w' ⟨rfl, rfl⟩) | (go_at_call 56; refine (iIn _ _ _ _).mono ?_; rintro e w' ⟨rfl, rfl⟩) | (go_at_call 16; refine (iSalesOk A n c xs _ hn hx).mono ?_; rintro e w' ⟨rfl, rfl⟩) | go_in | (go_end0; simp only []; go_at_K))
    go_ret
    exact Val.mk' (v_int HV.out.symm) (by (repeat (first | exact In.refl _ | assumption | apply In.alloc | apply In.drewN | apply In.drew | (refine In.step ?_ (by assumption)))))
  have HV : Hid (errV n xs = sumTo (errG xs) n) := Lib.hid (by simp [errV, h1])
  obtain ⟨s1, s2, s3⟩ := sales_at h1
  have HS := Lib.hid s3
  clear s3
  go_enter Try.func14, Try.ntmps14
  go_wp2_with (first | (go_at_call 137; refine (sIn _ _ _ _).mono ?_; rintro e w' ⟨rfl, rfl⟩) | (go_at_call 56; refine (iIn _ _ _ _).mono ?_; rintro e w' ⟨rfl, rfl⟩) | (go_at_call 16; refine (iSalesOk A n c xs _ hn hx).mono ?_; rintro e w' ⟨rfl, rfl⟩) | go_in | (go_end0; simp only []; go_at_K))
  clear h1
  go_loopw [3, 10] (fun s i wr => ∃ (k q : Nat), k ≤ n ∧ i = .int .i64 k ∧ s = .int .i64 (sumTo (errG xs) k) ∧ wr = w.drewN q) (fun _ i _ => n - (intOf i).toNat)
  case atStart => exact ⟨0, 0, Nat.zero_le _, rfl, rfl, rfl⟩
  case round =>
    obtain ⟨k, q, hk, rfl, rfl, rfl⟩ := hrel
    by_cases hlt : k < n
    · obtain ⟨b1, b2⟩ := sumTo_bd (errG xs) 10001 k fun i hi => errG_in HS.out i (by omega)
      have HU := Lib.hid (sumTo_succ (errG xs) k)
      by_cases hk7 : k < 7
      · have HG : Hid (errG xs k = 0) := Lib.hid (if_pos hk7)
        go_wp2
        go_roundw
        case rel => exact ⟨k + 1, _, by omega, by go_num, v_int (by rw [HU.out, HG.out]; omega), rfl⟩
        case measure => simp [intOf]; omega
      obtain ⟨a, rfl, ha⟩ := hx.2 k hlt
      obtain ⟨x1, x2⟩ := HS.out k hlt
      have HG : Hid (errG xs k = max (xs.getD k 0 - nextR xs k) (-(xs.getD k 0 - nextR xs k))) := Lib.hid (if_neg (by omega))
      obtain ⟨n1, n2⟩ := nextR_in xs k
      have hx' : Hid (ReadsI w (some a) k (xs.take k)) := Lib.hid (reads_take hx k hk)
      generalize xs.getD k 0 = x at ha x1 x2 HG
      have hkc : (k : Int) ≤ c := by omega
      generalize hy : nextR xs k = y at n1 n2 HG
      have HN := Lib.hid (fun W (h : ReadsI W (some a) k (xs.take k)) => (show Calls Try.prog 12 #[.slice (some a) k c] W (Same (i64 y) W) from by rw [← hy]; exact iNextSales (some a) k c (xs.take k) W (by omega) h))
      have HD := Lib.hid (fun W => iDist x y (by omega) (by omega) W)
      have wd : IntKind.i64.wrap (sumTo (errG xs) k + max (x - y) (y - x)) = sumTo (errG xs) k + max (x - y) (y - x) := IntWalk.i64_in _ (by omega)
      clear hy
      go_wp2
      go_quiet ((first | (go_at_call 12; exact (HN.out _ (hx'.out.drewN _)).mono (by rintro e w2 ⟨rfl, rfl⟩; exact ⟨rfl, _, rfl⟩)) | (go_at_call 57; exact (HD.out _).mono (by rintro e w2 ⟨rfl, rfl⟩; exact ⟨rfl, _, rfl⟩))))
      go_wp2
      go_roundw
      case rel => exact ⟨k + 1, _, by omega, by go_num, v_int (by rw [HU.out, HG.out]; omega), rfl⟩
      case measure => simp [intOf]; omega
    · obtain rfl : k = n := by omega
      go_wp2
      go_ret
      exact Val.mk' (v_int HV.out.symm) (by (repeat (first | exact In.refl _ | assumption | apply In.alloc | apply In.drewN | apply In.drew | (refine In.step ?_ (by assumption)))))
end Go.Proofs.Ytolblfcpiddmbaa
