/- Chapter 31: Shares: the values, the specification. -/
import Derived.Test.YtepajjaiakdcfaaC31
import Derived.Test.YtepajjaiakdcfaaOwnI
import Derived.Test.YtepajjaiakdcfaaAppS
namespace Go.Proofs.Ytepajjaiakdcfaa
open Go.ChangeShapes Go.WideShapes Go.ChangeAt Go.RowKit
set_option linter.unusedVariables false
set_option linter.unusedSimpArgs false
set_option maxHeartbeats 2000000

def geP (v s : Int) : Bool := decide (v ≤ s)
def mulP (whole N s : Int) : Bool := decide (whole ≤ s * N)
/-- the sum since the last cut, and the cuts, behind k parts -/
def ctS (P : Int → Bool) (xs : List Int) : Nat → Int × List Int
  | 0 => (0, [])
  | k + 1 => if P ((ctS P xs k).1 + xs.getD k 0) then (0, (ctS P xs k).2 ++ [((k + 1 : Nat) : Int)]) else ((ctS P xs k).1 + xs.getD k 0, (ctS P xs k).2)
theorem ctS_t {P : Int → Bool} {xs : List Int} {k : Nat} (h : P ((ctS P xs k).1 + xs.getD k 0) = true) : ctS P xs (k + 1) = (0, (ctS P xs k).2 ++ [((k + 1 : Nat) : Int)]) := by rw [ctS, if_pos h]
theorem ctS_f {P : Int → Bool} {xs : List Int} {k : Nat} (h : P ((ctS P xs k).1 + xs.getD k 0) = false) : ctS P xs (k + 1) = ((ctS P xs k).1 + xs.getD k 0, (ctS P xs k).2) := by rw [ctS, h]; rfl
theorem drop_at (xs : List Int) (p i : Nat) : (xs.drop p).getD i 0 = xs.getD (p + i) 0 := by simp [List.getD_eq_getElem?_getD]
theorem ct_no {P : Int → Bool} {xs : List Int} {p : Nat} {L : List Int} (h0 : ctS P xs p = (0, L)) : ∀ i : Nat, (∀ j, 0 < j → j ≤ i → P (lsum (xs.drop p) j) = false) → ctS P xs (p + i) = (lsum (xs.drop p) i, L)
  | 0, _ => h0
  | i + 1, h => by
    have ih := ct_no h0 i fun j h1 h2 => h j h1 (by omega)
    have h2 := h (i + 1) (by omega) (Nat.le_refl _)
    rw [lsum_succ, drop_at] at h2
    rw [← Nat.add_assoc, ctS_f (by rw [ih]; exact h2), ih, lsum_succ, drop_at]
theorem ct_yes {P : Int → Bool} {xs : List Int} {p : Nat} {L : List Int} (h0 : ctS P xs p = (0, L)) (i : Nat) (h : ∀ j, 0 < j → j ≤ i → P (lsum (xs.drop p) j) = false) (hy : P (lsum (xs.drop p) (i + 1)) = true) : ctS P xs (p + (i + 1)) = (0, L ++ [((p + (i + 1) : Nat) : Int)]) := by
  have ih := ct_no h0 i h
  rw [lsum_succ, drop_at] at hy
  rw [← Nat.add_assoc, ctS_t (by rw [ih]; exact hy), ih]
theorem ct_pre (P : Int → Bool) (xs : List Int) (p : Nat) : ∀ d : Nat, ∃ M, (ctS P xs (p + d)).2 = (ctS P xs p).2 ++ M
  | 0 => ⟨[], by simp⟩
  | d + 1 => by
    obtain ⟨M, hM⟩ := ct_pre P xs p d
    rw [← Nat.add_assoc, ctS]
    split
    · exact ⟨M ++ [((p + d + 1 : Nat) : Int)], by simp [hM]⟩
    · exact ⟨M, hM⟩
theorem ct_len (P : Int → Bool) (xs : List Int) : ∀ k : Nat, (ctS P xs k).2.length ≤ k
  | 0 => by simp [ctS]
  | k + 1 => by
    have := ct_len P xs k
    rw [ctS]
    split
    · simp; omega
    · simp; omega
theorem ct_sum {P : Int → Bool} {xs : List Int} {n : Nat} (h : ∀ i, i < n → 0 ≤ xs.getD i 0 ∧ xs.getD i 0 ≤ 1000) : ∀ k : Nat, k ≤ n → 0 ≤ (ctS P xs k).1 ∧ (ctS P xs k).1 ≤ 1000 * k
  | 0, _ => by simp [ctS]
  | k + 1, hk => by
    have ih := ct_sum (P := P) h k (by omega)
    have h1 := h k (by omega)
    rw [ctS]
    split
    · simp; omega
    · simp only []; push_cast; omega
theorem ge_mul {whole N s : Int} (hN : 1 ≤ N) : geP ((whole + N - 1) / N) s = mulP whole N s := by
  unfold geP mulP
  rw [decide_eq_decide]
  have h1 : (whole + N - 1) / N ≤ s ↔ (whole + N - 1) / N < s + 1 := by omega
  rw [h1, Int.ediv_lt_iff_lt_mul (by omega), Int.add_mul]
  omega
theorem ct_same {P Q : Int → Bool} (h : ∀ s, P s = Q s) (xs : List Int) : ∀ k, ctS P xs k = ctS Q xs k
  | 0 => rfl
  | k + 1 => by rw [ctS, ctS, ct_same h xs k, h]
def cutL (n : Nat) (xs : List Int) (v : Int) : List Int := (ctS (geP v) xs n).2
def SharesB (n : Nat) (xs : List Int) (N : Int) : Bool := cakeB n xs && inB N 1 10 && decide (N ≤ ((cutL n xs ((lsum xs n + N - 1) / N)).length : Int))
def SharesL (n : Nat) (xs : List Int) (N : Int) : List Int := if SharesB n xs N then (cutL n xs ((lsum xs n + N - 1) / N)).take (N.toNat - 1) else []
theorem SharesL_len (n : Nat) (xs : List Int) (N : Int) : (SharesL n xs N).length ≤ 100000 := by
  unfold SharesL
  split
  · rename_i h
    simp only [SharesB, Bool.and_eq_true] at h
    have h1 := inB_tt h.1.2
    rw [List.length_take]
    omega
  · simp
theorem own_take {w : World} {B m c k : Nat} {A : Option Addr} {L : List Int} (h : w.ownsRow B 3 1 (.slice A m c) m (iv L)) (hk : k ≤ m) : w.ownsRow B 3 1 (.slice A k c) k (iv (L.take k)) := by
  have hl := own_len_i h
  refine ⟨by rw [iv_len, List.length_take]; omega, ?_⟩
  rcases h.2 with ⟨h1, h2⟩ | ⟨g, cap, cur, hv, hg, hh, hnc, hcm, hcs, htake⟩
  · injection h1 with e1 e2 e3
    subst e1 e2 e3
    obtain rfl : k = 0 := by omega
    obtain rfl : L = [] := List.length_eq_zero_iff.1 hl
    exact .inl ⟨rfl, rfl⟩
  · injection hv with e1 e2 e3
    subst e1 e3
    refine .inr ⟨g, c, cur, rfl, hg, hh, by omega, hcm, hcs, ?_⟩
    have h9 := congrArg (List.take k) htake
    rw [List.take_take, show min k (m * 1) = k * 1 by omega] at h9
    rw [h9]
    simp [iv, List.map_take]
theorem own_new1 (w : World) (t : TypeId) (B : Nat) (hB : B ≤ w.heap.size) : (w.alloc (.cells #[] t)).ownsRow B t 1 (.slice (some ⟨w.heap.size, 0, none⟩) 0 0) 0 [] :=
  ⟨by simp, .inr ⟨w.heap.size, 0, #[], rfl, hB, heap_alloc_new w _, Nat.le_refl _, Nat.zero_le _, by simp, by simp⟩⟩
theorem infoK : (Try.prog.info? 3).map (fun i => (i.zero, i.size, i.bytes)) = some (some (.int .i64 0), 1, 8) := by kernel_rfl
set_option maxRecDepth 20000 in
set_option maxHeartbeats 8000000 in
theorem sCuts (A : Option Addr) (n c : Nat) (xs : List Int) (v : Int) (w : World) (hn : n ≤ 40) (hs : ∀ i, i < n → 0 ≤ xs.getD i 0 ∧ xs.getD i 0 ≤ 1000) (hx : ReadsI w A n xs) : Calls Try.prog 98 #[.slice A n c, .int .i64 v] w (RowB (cutL n xs v) w) := by
  obtain ⟨i0, hi0, hz0, hz1, hz2⟩ := info_parts infoK
  have own0 := own_new1 w 3 w.heap.size (Nat.le_refl _)
  have hi1 : In w.heap.size w (w.alloc (.cells #[] 3)) := (In.refl w).alloc _
  have HX := Lib.hid hx
  have HS := Lib.hid hs
  clear hx hs
  go_enter Try.func98, Try.ntmps98
  go_wp2
  go_loopw [5, 6, 7] (fun o s i wr => ∃ (k m : Nat), k ≤ n ∧ i = .int .i64 k ∧ (ctS (geP v) xs k).2.length = m ∧ s = .int .i64 (ctS (geP v) xs k).1 ∧ wr.ownsRow w.heap.size 3 1 o m (iv (ctS (geP v) xs k).2) ∧ In w.heap.size w wr) (fun _ _ i _ => n - (intOf i).toNat)
  case atStart => exact ⟨0, 0, Nat.zero_le _, rfl, rfl, rfl, own0, hi1⟩
  case round =>
    clear own0 hi1
    obtain ⟨k, m, hk, rfl, hm, rfl, hown, hi⟩ := hrel
    obtain ⟨B, d, rfl⟩ := own_shape_i hown
    by_cases hlt : k < n
    · obtain ⟨a, rfl, ha⟩ := (HX.out.below hi.below (Nat.le_refl _)).2 k hlt
      have hxk := HS.out k hlt
      have hsm := ct_sum (P := geP v) HS.out k hk
      have hml := ct_len (geP v) xs k
      have HT := Lib.hid (fun h => ctS_t (P := geP v) (xs := xs) (k := k) h)
      have HF := Lib.hid (fun h => ctS_f (P := geP v) (xs := xs) (k := k) h)
      rw [hm] at hml
      obtain ⟨L, hL⟩ : ∃ L, (ctS (geP v) xs k).2 = L := ⟨_, rfl⟩
      obtain ⟨s, hs⟩ : ∃ s, (ctS (geP v) xs k).1 = s := ⟨_, rfl⟩
      rw [hs] at hsm ⊢
      rw [hL] at hm hown
      have HT2 : Hid (geP v (s + xs.getD k 0) = true → ctS (geP v) xs (k + 1) = (0, L ++ [((k + 1 : Nat) : Int)])) := Lib.hid fun h => by rw [HT.out (by rw [hs]; exact h), hL]
      have HF2 : Hid (geP v (s + xs.getD k 0) = false → ctS (geP v) xs (k + 1) = (s + xs.getD k 0, L)) := Lib.hid fun h => by rw [HF.out (by rw [hs]; exact h), hs, hL]
      clear HT HF hL hs
      generalize xs.getD k 0 = x at *
      have hs1 : 0 ≤ s + x ∧ s + x ≤ 50000 := by omega
      have hs0 : 0 ≤ s ∧ s ≤ 40000 := by omega
      by_cases hge : v ≤ s + x
      · have HE := Lib.hid (HT2.out (decide_eq_true hge))
        have HM := Lib.hid hm
        have HY : Hid (((k + 1 : Nat) : Int) = (k : Int) + 1) := Lib.hid (by omega)
        have F1 : Hid (∀ u ∈ (#[Value.int .i64 ((k : Int) + 1)] : Array Value).toList, u.oneCell' = true) := Lib.hid (one_lit _)
        have f12 : m + 1 ≤ maxLen := cap12 (by omega)
        have f13 : (m + 1) * 8 ≤ 140737488355328 := cap13 (by omega)
        have hz9 := hi.size
        clear hm
        go_wp2_with (at_builtin; refine wpList_app wr rfl (.tmp 24) (.tmp 27) 38 rfl w.heap.size 3 i0 (.int .i64 0) 1 8 Try.underlying38 hi0 hz0 hz1 hz2 rfl Nat.one_pos (.slice B m d) m (iv L) rfl hown 1 #[.int .i64 ((k : Int) + 1)] rfl rfl F1.out f12 f13 hz9 ?_; intro v1 w1 hown1 hbw1)
        have hown2 : w1.ownsRow w.heap.size 3 1 v1 (m + 1) (iv (L ++ [((k + 1 : Nat) : Int)])) := by rw [HY.out, iv_app]; exact hown1
        have hi2 := hi.wide hbw1
        clear hown1 hbw1 hown hi
        go_wp2
        go_roundw
        case rel => exact ⟨k + 1, m + 1, by omega, by go_num, by rw [HE.out]; simp [HM.out], by rw [HE.out], by rw [HE.out]; exact hown2, hi2⟩
        case measure => simp [intOf]; omega
      · have HE := Lib.hid (HF2.out (decide_eq_false hge))
        have HM := Lib.hid hm
        clear hm
        go_wp2
        go_roundw
        case rel => exact ⟨k + 1, m, by omega, by go_num, by rw [HE.out]; exact HM.out, by rw [HE.out], by rw [HE.out]; exact hown, by (repeat (first | exact In.refl _ | assumption | apply In.alloc | apply In.drewN | apply In.drew | (refine In.step ?_ (by assumption))))⟩
        case measure => simp [intOf]; omega
    · obtain rfl : n = k := by omega
      have HM := Lib.hid hm
      clear hm
      go_wp2
      go_ret
      exact rowB_of HM.out hown hi.below
end Go.Proofs.Ytepajjaiakdcfaa
