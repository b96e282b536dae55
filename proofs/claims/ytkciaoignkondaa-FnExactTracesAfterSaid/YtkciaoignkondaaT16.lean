/- Chapter 16: TracesAfter. -/
import Derived.Test.YtkciaoignkondaaC16
import Derived.Test.YtkciaoignkondaaBool
import Derived.Test.YtkciaoignkondaaIntI
import Derived.Test.YtkciaoignkondaaIntS
import Derived.Test.YtkciaoignkondaaIntE
import Derived.Test.YtkciaoignkondaaOwnM
import Derived.Test.YtkciaoignkondaaSum
namespace Go.Proofs.Ytkciaoignkondaa
open Go.ChangeShapes Go.WideShapes Go.ChangeAt Go.RowKit
set_option linter.unusedVariables false
set_option linter.unusedSimpArgs false
set_option maxHeartbeats 2000000

def trT (xs : List Int) (bs : List Bool) : Nat → Int
  | 0 => 0
  | k + 1 => bits .or .i64 (if bs.getD k false then 0 else trT xs bs k) (xs.getD k 0)
def trL (xs : List Int) (bs : List Bool) : Nat → List Int
  | 0 => []
  | k + 1 => trL xs bs k ++ [trT xs bs (k + 1)]
theorem trL_len (xs : List Int) (bs : List Bool) (k : Nat) : (trL xs bs k).length = k := by
  induction k with
  | zero => rfl
  | succ k ih => simp [trL, ih]
theorem trL_at (xs : List Int) (bs : List Bool) (n k : Nat) (h : k < n) : (trL xs bs n).getD k 0 = trT xs bs (k + 1) := by
  induction n with
  | zero => omega
  | succ n ih =>
    have hl := trL_len xs bs n
    by_cases e : k = n
    · subst e
      rw [trL, List.getD_eq_getElem?_getD, List.getElem?_append_right (by omega), hl]
      simp
    · rw [trL, List.getD_eq_getElem?_getD, List.getElem?_append_left (by omega), ← List.getD_eq_getElem?_getD]
      exact ih (by omega)
def TracesAfterL (n : Nat) (xs : List Int) (m : Nat) (bs : List Bool) : List Int := if doughsB n xs 40 && decide (m = n) then trL xs bs n else []
theorem TracesAfterL_len (n : Nat) (xs : List Int) (m : Nat) (bs : List Bool) : (TracesAfterL n xs m bs).length ≤ 100000 := by
  unfold TracesAfterL
  split
  · rename_i h
    rw [Bool.and_eq_true] at h
    have := (doughs_at h.1).1
    rw [trL_len]; omega
  · simp
set_option maxHeartbeats 4000000 in
theorem sTracesAfter (A : Option Addr) (n c : Nat) (xs : List Int) (B : Option Addr) (m d : Nat) (bs : List Bool) (w : World) (hn : n ≤ maxLen) (hx : ReadsI w A n xs) (hm : m ≤ maxLen) (hy : ReadsBool w B m bs) : Calls Try.prog 9 #[.slice A n c, .slice B m d] w (RowB (TracesAfterL n xs m bs) w) := by
  obtain ⟨i0, hi0, hz0, hz1, hz2⟩ := info_parts infoI
  have HV : Hid (TracesAfterL n xs m bs = if doughsB n xs 40 && decide (m = n) then trL xs bs n else []) := Lib.hid rfl
  have hw0 : In w.heap.size w (w.alloc (.cells #[] 3)) := by (repeat (first | exact In.refl _ | assumption | apply In.alloc | apply In.drewN | apply In.drew | (refine In.step ?_ (by assumption))))
  have hown0 : (w.alloc (.cells #[] 3)).ownsRow w.heap.size 3 1 (.slice (some ⟨w.heap.size, 0, none⟩) 0 0) 0 (iv []) := own_new w 3 w.heap.size (Nat.le_refl _)
  have hx1 := hx.alloc (.cells #[] 3)
  have HXX := Lib.hid hx
  have HYY := Lib.hid hy
  clear hx hy
  have hnn : n ≤ maxLen := hn
  unfold maxLen at hn hm
  go_enter Try.func9, Try.ntmps9
  go_wp2_with fail
  refine (sl16Ok A n c xs 40 _ hnn hx1).mono ?_
  rintro _ _ ⟨rfl, rfl⟩
  cases h1 : doughsB n xs 40
  · have HE : Hid (TracesAfterL n xs m bs = []) := Lib.hid (by rw [HV.out, h1]; rfl)
    go_wp2
    go_ret
    rw [HE.out]
    exact rowB_of rfl hown0 hw0.below
  have hn40 := (doughs_at h1).1
  by_cases hmn : m = n
  rotate_left
  · have HE : Hid (TracesAfterL n xs m bs = []) := Lib.hid (by rw [HV.out, h1]; simp [hmn])
    have h2' : ((m : Int) == (n : Int)) = false := by simp; omega
    have h2'' : ((m : Int) != (n : Int)) = true := by simp; omega
    have h2 : ¬ (m : Int) = (n : Int) := by omega
    go_wp2
    go_ret
    rw [HE.out]
    exact rowB_of rfl hown0 hw0.below
  subst hmn
  have HE : Hid (TracesAfterL m xs m bs = trL xs bs m) := Lib.hid (by rw [HV.out, h1]; simp)
  clear h1 HV hx1
  go_wp2
  go_loopw [5, 6, 7] (fun v e i wr => ∃ k : Nat, k ≤ m ∧ i = .int .i64 k ∧ e = .int .i64 (trT xs bs k) ∧ wr.ownsRow w.heap.size 3 1 v k (iv (trL xs bs k)) ∧ In w.heap.size w wr) (fun _ _ i _ => m - (intOf i).toNat)
  case atStart => exact ⟨0, Nat.zero_le _, rfl, rfl, hown0, hw0⟩
  case round =>
    clear hown0 hw0
    obtain ⟨k, hk, rfl, rfl, hown, hi⟩ := hrel
    obtain ⟨A1, c1, rfl⟩ := own_shape_i hown
    by_cases hlt : k < m
    · obtain ⟨a, rfl, ha⟩ := (HXX.out.below hi.below (Nat.le_refl _)).2 k hlt
      obtain ⟨b, rfl, hb⟩ := (HYY.out.in_ hi).2 k hlt
      have HT : Hid (trT xs bs (k + 1) = bits .or .i64 (if bs.getD k false then 0 else trT xs bs k) (xs.getD k 0)) := Lib.hid rfl
      have HL : Hid (trL xs bs (k + 1) = trL xs bs k ++ [trT xs bs (k + 1)]) := Lib.hid rfl
      have hll := trL_len xs bs k
      generalize trT xs bs k = e0 at *
      generalize xs.getD k 0 = x at *
      generalize trL xs bs k = L at *
      have HLL := Lib.hid hll
      clear hll
      cases hbv : bs.getD k false
      · rw [hbv] at hb
        have HT2 : Hid (trT xs bs (k + 1) = bits .or .i64 e0 x) := Lib.hid (by rw [HT.out, hbv]; rfl)
        clear hbv HT
        have F9 : Hid (∀ u ∈ (#[Value.int .i64 (bits .or .i64 e0 x)] : Array Value).toList, u.oneCell' = true) := Lib.hid (by intro u hu; simp at hu; subst hu; rfl)
        have f92 : k + 1 ≤ maxLen := by unfold maxLen; omega
        have f93 : (k + 1) * 8 ≤ 140737488355328 := by omega
        have hB9 : w.heap.size ≤ wr.heap.size := In.size (B := w.heap.size) (a := w) (by (repeat (first | exact In.refl _ | assumption | apply In.alloc | apply In.drewN | apply In.drew | (refine In.step ?_ (by assumption)))))
        go_wp2_with (first | (go_at_call 40; refine (sIn _ _ _ _).mono ?_; rintro e w' ⟨rfl, rfl⟩) | (go_at_call 42; refine (iIn _ _ _ _).mono ?_; rintro e w' ⟨rfl, rfl⟩) | (at_builtin; refine wpList_app wr rfl (.tmp 36) (.tmp 38) 22 rfl w.heap.size 3 i0 (.int .i64 0) 1 8 Try.underlying22 hi0 hz0 hz1 hz2 rfl Nat.one_pos (.slice A1 k c1) (k) (iv (L)) rfl hown 1 #[.int .i64 (bits .or .i64 e0 x)] rfl rfl F9.out f92 f93 hB9 ?_; intro v9 w9 hown9 hbw9) | go_in | (go_end0; simp only []; go_at_K))
        have hi9 : In w.heap.size w w9 := In.wide hi hbw9
        have hown2 : w9.ownsRow w.heap.size 3 1 v9 (k + 1) (iv (trL xs bs (k + 1))) := by rw [HL.out, iv_app, HT2.out]; exact hown9
        clear hown9 hbw9 hown f92 f93 hB9
        go_wp2
        go_roundw
        case rel => exact ⟨k + 1, by omega, by go_num, v_int HT2.out.symm, hown2, hi9⟩
        case measure => simp [intOf]; omega
      · rw [hbv] at hb
        have HT2 : Hid (trT xs bs (k + 1) = bits .or .i64 0 x) := Lib.hid (by rw [HT.out, hbv]; rfl)
        clear hbv HT
        have F9 : Hid (∀ u ∈ (#[Value.int .i64 (bits .or .i64 0 x)] : Array Value).toList, u.oneCell' = true) := Lib.hid (by intro u hu; simp at hu; subst hu; rfl)
        have f92 : k + 1 ≤ maxLen := by unfold maxLen; omega
        have f93 : (k + 1) * 8 ≤ 140737488355328 := by omega
        have hB9 : w.heap.size ≤ wr.heap.size := In.size (B := w.heap.size) (a := w) (by (repeat (first | exact In.refl _ | assumption | apply In.alloc | apply In.drewN | apply In.drew | (refine In.step ?_ (by assumption)))))
        go_wp2_with (first | (go_at_call 40; refine (sIn _ _ _ _).mono ?_; rintro e w' ⟨rfl, rfl⟩) | (go_at_call 42; refine (iIn _ _ _ _).mono ?_; rintro e w' ⟨rfl, rfl⟩) | (at_builtin; refine wpList_app wr rfl (.tmp 36) (.tmp 38) 22 rfl w.heap.size 3 i0 (.int .i64 0) 1 8 Try.underlying22 hi0 hz0 hz1 hz2 rfl Nat.one_pos (.slice A1 k c1) (k) (iv (L)) rfl hown 1 #[.int .i64 (bits .or .i64 0 x)] rfl rfl F9.out f92 f93 hB9 ?_; intro v9 w9 hown9 hbw9) | go_in | (go_end0; simp only []; go_at_K))
        have hi9 : In w.heap.size w w9 := In.wide hi hbw9
        have hown2 : w9.ownsRow w.heap.size 3 1 v9 (k + 1) (iv (trL xs bs (k + 1))) := by rw [HL.out, iv_app, HT2.out]; exact hown9
        clear hown9 hbw9 hown f92 f93 hB9
        go_wp2
        go_roundw
        case rel => exact ⟨k + 1, by omega, by go_num, v_int HT2.out.symm, hown2, hi9⟩
        case measure => simp [intOf]; omega
    · obtain rfl : k = m := by omega
      go_wp2
      go_ret
      rw [HE.out]
      exact rowB_of (trL_len xs bs k) hown hi.below
set_option maxHeartbeats 4000000 in
theorem iTracesAfter (A : Option Addr) (n c : Nat) (xs : List Int) (B : Option Addr) (m d : Nat) (bs : List Bool) (w : World) (hn : n ≤ maxLen) (hx : ReadsI w A n xs) (hm : m ≤ maxLen) (hy : ReadsBool w B m bs) : Calls Try.prog 12 #[.slice A n c, .slice B m d] w (RowB (TracesAfterL n xs m bs) w) := by
  obtain ⟨i0, hi0, hz0, hz1, hz2⟩ := info_parts infoI
  have HV : Hid (TracesAfterL n xs m bs = if (allIn xs 0 255 n && decide ((n : Int) ≤ 40)) && decide (m = n) then trL xs bs n else []) := Lib.hid rfl
  have HXX := Lib.hid hx
  have HYY := Lib.hid hy
  have HNN := Lib.hid hn
  have nilc : Hid (RowB [] w (.returned (.slice none 0 0)) w) := Lib.hid (rowB_nil w w (In.refl w))
  unfold maxLen at hn hm
  by_cases h40 : (40 : Int) < n
  · have HE : Hid (TracesAfterL n xs m bs = []) := Lib.hid (by rw [HV.out]; simp; omega)
    clear hx hy
    go_enter Try.func12, Try.ntmps12
    go_wp2
    go_ret
    rw [HE.out]
    exact nilc.out
  by_cases hmn : m = n
  rotate_left
  · have HE : Hid (TracesAfterL n xs m bs = []) := Lib.hid (by rw [HV.out]; simp [hmn])
    have h2' : ((m : Int) == (n : Int)) = false := by simp; omega
    have h2'' : ((m : Int) != (n : Int)) = true := by simp; omega
    have h2 : ¬ (m : Int) = (n : Int) := by omega
    clear hx hy
    go_enter Try.func12, Try.ntmps12
    go_wp2
    go_ret
    rw [HE.out]
    exact nilc.out
  subst hmn
  clear hx hy
  go_enter Try.func12, Try.ntmps12
  go_wp2_with fail
  refine (ithingsOk A m c xs _ HNN.out HXX.out).mono ?_
  rintro _ _ ⟨rfl, rfl⟩
  cases h1 : allIn xs 0 255 m
  · have HE : Hid (TracesAfterL m xs m bs = []) := Lib.hid (by rw [HV.out, h1]; rfl)
    go_wp2
    go_ret
    rw [HE.out]
    exact nilc.out
  have HE : Hid (TracesAfterL m xs m bs = trL xs bs m) := Lib.hid (by rw [HV.out, h1]; simp; omega)
  clear h1 HV nilc
  go_wp2_with (at_make; refine wpList_make_full _ rfl (.tmp 25) (.tmp 25) 22 rfl w.heap.size 3 i0 (.int .i64 0) 1 Try.underlying22 hi0 hz0 hz1 .i64 .i64 (m : Int) (m : Int) m rfl rfl rfl rfl ?h2 ?h3 ?h4 ?_)
  case h2 => rw [hz2]; omega
  case h3 => unfold maxLen; omega
  case h4 => exact Nat.le_refl _
  intro w1 hown0 hgrow0
  have hb0 : Below w.heap.size w w1 := (Below.refl _ _).grown hgrow0 (Nat.le_refl _) (fun j hj => by cases hj)
  clear hgrow0
  have hown1 : w1.ownsRow w.heap.size 3 1 (.slice (some ⟨w.heap.size, 0, none⟩) m m) m (iv (List.replicate m 0)) := by
    rw [toList_madeCells_one, iv_zeros] at hown0; exact hown0
  clear hown0
  go_wp2
  go_loopw [6, 29] (fun e i wr => ∃ (k : Nat) (l : List Int), k ≤ m ∧ i = .int .i64 k ∧ e = .int .i64 (trT xs bs k) ∧ l.length = m ∧ wr.ownsRow w.heap.size 3 1 (.slice (some ⟨w.heap.size, 0, none⟩) m m) m (iv l) ∧ (∀ t, t < k → l.getD t 0 = trT xs bs (t + 1)) ∧ Below w.heap.size w wr) (fun _ i _ => m - (intOf i).toNat)
  case atStart => exact ⟨0, _, Nat.zero_le _, rfl, rfl, by simp, hown1, fun t ht => absurd ht (Nat.not_lt_zero _), hb0⟩
  case round =>
    clear hown1 hb0
    obtain ⟨k, l, hk, rfl, rfl, hl, hown, hs, hb⟩ := hrel
    have HL := Lib.hid hl
    have HS := Lib.hid hs
    clear hl hs
    by_cases hlt : k < m
    · have hi : In w.heap.size w wr := ⟨hb, hb.size⟩
      obtain ⟨a, rfl, ha⟩ := (HXX.out.below hb (Nat.le_refl _)).2 k hlt
      obtain ⟨b, rfl, hbb⟩ := (HYY.out.in_ hi).2 k hlt
      have HT : Hid (trT xs bs (k + 1) = bits .or .i64 (if bs.getD k false then 0 else trT xs bs k) (xs.getD k 0)) := Lib.hid rfl
      have hc := hown.cellAt k (by omega)
      rw [iv_at l k (by have := HL.out; omega)] at hc
      have hf := hown.frozenAt k
      have hst := fun z : Int => (hown.stored k (.int .i64 z)).1
      have hb1 := fun z : Int => (show Below w.heap.size w (wr.setCell ⟨w.heap.size, k, none⟩ (.int .i64 z)) from hb.setCell (Nat.le_refl _) _)
      have HST := Lib.hid hst
      have HB1 := Lib.hid hb1
      generalize trT xs bs k = e0 at *
      generalize xs.getD k 0 = x at *
      generalize l.getD k 0 = y0 at hc
      clear hown hi hst hb1 hb
      cases hbv : bs.getD k false
      · rw [hbv] at hbb
        have HT2 : Hid (trT xs bs (k + 1) = bits .or .i64 e0 x) := Lib.hid (by rw [HT.out, hbv]; rfl)
        have hst2 := HST.out (bits .or .i64 e0 x)
        rw [← iv_set] at hst2
        have hb2 := HB1.out (bits .or .i64 e0 x)
        clear hbv HT HST HB1
        go_wp2
        have HC := Lib.hid hc
        clear hc hf
        go_roundw
        case rel => exact ⟨k + 1, l.set k (bits .or .i64 e0 x), by omega, by go_num, v_int HT2.out.symm, by have := HL.out; simp; omega, hst2, fun t ht => by
            by_cases e : t = k
            · subst e; have := HL.out; rw [HT2.out]; simp [show t < l.length from by omega]
            · have := HS.out t (by omega); rw [← this]; simp [show ¬ k = t from fun h => e h.symm], hb2⟩
        case measure => simp [intOf]; omega
      · rw [hbv] at hbb
        have HT2 : Hid (trT xs bs (k + 1) = bits .or .i64 0 x) := Lib.hid (by rw [HT.out, hbv]; rfl)
        have hst2 := HST.out (bits .or .i64 0 x)
        rw [← iv_set] at hst2
        have hb2 := HB1.out (bits .or .i64 0 x)
        clear hbv HT HST HB1
        go_wp2
        have HC := Lib.hid hc
        clear hc hf
        go_roundw
        case rel => exact ⟨k + 1, l.set k (bits .or .i64 0 x), by omega, by go_num, v_int HT2.out.symm, by have := HL.out; simp; omega, hst2, fun t ht => by
            by_cases e : t = k
            · subst e; have := HL.out; rw [HT2.out]; simp [show t < l.length from by omega]
            · have := HS.out t (by omega); rw [← this]; simp [show ¬ k = t from fun h => e h.symm], hb2⟩
        case measure => simp [intOf]; omega
    · obtain rfl : k = m := by omega
      go_wp2
      go_ret
      have e : l = trL xs bs k := by
        refine list_at (by rw [HL.out, trL_len]) fun t ht => ?_
        have := HL.out
        rw [HS.out t (by omega), trL_at xs bs k t (by omega)]
      subst e
      rw [HE.out]
      exact rowB_of (trL_len xs bs k) hown hb
end Go.Proofs.Ytkciaoignkondaa
