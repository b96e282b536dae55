/- A copy of a slice of ints: its contract. -/
import Derived.Test.YtmkfnhgaiheckaaIntI
import Derived.Test.YtmkfnhgaiheckaaChecked
import Derived.Deep.QuietTactic
import Derived.BigQuiet
import Derived.Deep.RegionHeld3
namespace Go.Proofs.Ytmkfnhgaiheckaa
open Go.ChangeShapes Go.WideShapes Go.ChangeAt Go.RowKit
set_option linter.unusedVariables false

set_option maxHeartbeats 1000000 in
theorem toI_c (A : Option Addr) (n c : Nat) (xs : List Int) (w : World) (hn : (n : Int) ≤ 10000000) (hx : ReadsI w A n xs) :
    Calls Try.prog 71 #[.slice A n c] w (RowB xs w) := by
  obtain ⟨i0, hi0, hz0, hz1, hz2⟩ := info_parts infoI
  have hlen := hx.1
  go_enter Try.func71, Try.ntmps71
  go_wp2_with (at_make; refine wpList_make_full _ rfl (.tmp 6) (.tmp 6) 43 rfl w.heap.size 3 i0 (.int .i64 0) 1 Try.underlying43 hi0 hz0 hz1 .i64 .i64 (n : Int) (n : Int) n rfl rfl rfl rfl ?h2 ?h3 ?h4 ?_)
  case h2 => rw [hz2]; omega
  case h3 => unfold maxLen; omega
  case h4 => exact Nat.le_refl _
  intro w1 hown0 hgrow0
  have hb0 : Below w.heap.size w w1 := (Below.refl _ _).grown hgrow0 (Nat.le_refl _) (fun j hj => by cases hj)
  clear hgrow0
  have hown1 : w1.ownsRow w.heap.size 3 1 (.slice (some ⟨w.heap.size, 0, none⟩) n n) n (iv (List.replicate n 0)) := by
    rw [toList_madeCells_one, iv_zeros] at hown0; exact hown0
  clear hown0
  go_wp2
  go_loopw [4] (fun i wr => ∃ (k : Nat) (l : List Int), k ≤ n ∧ i = .int .i64 k ∧ l.length = n ∧ wr.ownsRow w.heap.size 3 1 (.slice (some ⟨w.heap.size, 0, none⟩) n n) n (iv l) ∧ (∀ t, t < k → l.getD t 0 = xs.getD t 0) ∧ Below w.heap.size w wr) (fun i _ => n - (intOf i).toNat)
  case atStart => exact ⟨0, _, Nat.zero_le _, rfl, by simp, hown1, fun t ht => absurd ht (Nat.not_lt_zero _), hb0⟩
  case round =>
    clear hown1 hb0
    obtain ⟨k, l, hk, rfl, hl, hown, hs, hb⟩ := hrel
    have HL := Lib.hid hl
    have HS := Lib.hid hs
    clear hl hs
    by_cases hlt : k < n
    · have hc := hown.cellAt k (by omega)
      rw [iv_at l k (by have := HL.out; omega)] at hc
      have hf := hown.frozenAt k
      have hst := (hown.stored k (.int .i64 (xs.getD k 0))).1
      rw [← iv_set] at hst
      have hb1 : Below w.heap.size w (wr.setCell ⟨w.heap.size, k, none⟩ (.int .i64 (xs.getD k 0))) := hb.setCell (Nat.le_refl _) _
      obtain ⟨a, rfl, ha⟩ := (hx.below hb (Nat.le_refl _)).2 k hlt
      generalize hx0 : xs.getD k 0 = x0 at ha hst hb1
      have HX := Lib.hid hx0
      generalize l.getD k 0 = y0 at hc
      clear hx0 hown
      go_wp2
      have HC := Lib.hid hc
      clear hc hf
      go_roundw
      case rel => exact ⟨k + 1, l.set k x0, by omega, by go_num, by have := HL.out; simp; omega, hst, fun t ht => by
          by_cases e : t = k
          · subst e; have := HL.out; rw [HX.out]; simp [show t < l.length from by omega]
          · have := HS.out t (by omega); rw [← this]; simp [show ¬ k = t from fun h => e h.symm], hb1⟩
      case measure => simp [intOf]; omega
    · obtain rfl : k = n := by omega
      go_wp2
      go_ret
      have e : l = xs := by
        apply List.ext_getElem
        · rw [HL.out, hlen]
        · intro i h1 h2
          have := HS.out i (by have := HL.out; omega)
          rw [List.getD_eq_getElem?_getD, List.getElem?_eq_getElem h1, List.getD_eq_getElem?_getD, List.getElem?_eq_getElem h2] at this
          exact this
      subst e
      subst hlen
      exact ⟨_, _, rfl, hown, hb⟩
set_option maxHeartbeats 1000000 in
theorem toI_at (A : Option Addr) (n c : Nat) (xs : List Int) (w : World) (hn : (n : Int) ≤ 10000000) (hx : ReadsI w A n xs) :
    Calls Try.prog 71 #[.slice A n c] w (fun e w' => ∃ g, e = .returned (.slice (some ⟨g, 0, none⟩) xs.length xs.length) ∧ w'.ownsRow g 3 1 (.slice (some ⟨g, 0, none⟩) xs.length xs.length) xs.length (iv xs) ∧ w.heap.size ≤ g ∧ Below w.heap.size w w') := by
  obtain ⟨i0, hi0, hz0, hz1, hz2⟩ := info_parts infoI
  have hlen := hx.1
  go_enter Try.func71, Try.ntmps71
  go_wp2_with (at_make; refine wpList_make_full _ rfl (.tmp 6) (.tmp 6) 43 rfl w.heap.size 3 i0 (.int .i64 0) 1 Try.underlying43 hi0 hz0 hz1 .i64 .i64 (n : Int) (n : Int) n rfl rfl rfl rfl ?h2 ?h3 ?h4 ?_)
  case h2 => rw [hz2]; omega
  case h3 => unfold maxLen; omega
  case h4 => exact Nat.le_refl _
  intro w1 hown0 hgrow0
  have hb0 : Below w.heap.size w w1 := (Below.refl _ _).grown hgrow0 (Nat.le_refl _) (fun j hj => by cases hj)
  clear hgrow0
  have hown1 : w1.ownsRow w.heap.size 3 1 (.slice (some ⟨w.heap.size, 0, none⟩) n n) n (iv (List.replicate n 0)) := by
    rw [toList_madeCells_one, iv_zeros] at hown0; exact hown0
  clear hown0
  go_wp2
  go_loopw [4] (fun i wr => ∃ (k : Nat) (l : List Int), k ≤ n ∧ i = .int .i64 k ∧ l.length = n ∧ wr.ownsRow w.heap.size 3 1 (.slice (some ⟨w.heap.size, 0, none⟩) n n) n (iv l) ∧ (∀ t, t < k → l.getD t 0 = xs.getD t 0) ∧ Below w.heap.size w wr) (fun i _ => n - (intOf i).toNat)
  case atStart => exact ⟨0, _, Nat.zero_le _, rfl, by simp, hown1, fun t ht => absurd ht (Nat.not_lt_zero _), hb0⟩
  case round =>
    clear hown1 hb0
    obtain ⟨k, l, hk, rfl, hl, hown, hs, hb⟩ := hrel
    have HL := Lib.hid hl
    have HS := Lib.hid hs
    clear hl hs
    by_cases hlt : k < n
    · have hc := hown.cellAt k (by omega)
      rw [iv_at l k (by have := HL.out; omega)] at hc
      have hf := hown.frozenAt k
      have hst := (hown.stored k (.int .i64 (xs.getD k 0))).1
      rw [← iv_set] at hst
      have hb1 : Below w.heap.size w (wr.setCell ⟨w.heap.size, k, none⟩ (.int .i64 (xs.getD k 0))) := hb.setCell (Nat.le_refl _) _
      obtain ⟨a, rfl, ha⟩ := (hx.below hb (Nat.le_refl _)).2 k hlt
      generalize hx0 : xs.getD k 0 = x0 at ha hst hb1
      have HX := Lib.hid hx0
      generalize l.getD k 0 = y0 at hc
      clear hx0 hown
      go_wp2
      have HC := Lib.hid hc
      clear hc hf
      go_roundw
      case rel => exact ⟨k + 1, l.set k x0, by omega, by go_num, by have := HL.out; simp; omega, hst, fun t ht => by
          by_cases e : t = k
          · subst e; have := HL.out; rw [HX.out]; simp [show t < l.length from by omega]
          · have := HS.out t (by omega); rw [← this]; simp [show ¬ k = t from fun h => e h.symm], hb1⟩
      case measure => simp [intOf]; omega
    · obtain rfl : k = n := by omega
      go_wp2
      go_ret
      have e : l = xs := by
        apply List.ext_getElem
        · rw [HL.out, hlen]
        · intro i h1 h2
          have := HS.out i (by have := HL.out; omega)
          rw [List.getD_eq_getElem?_getD, List.getElem?_eq_getElem h1, List.getD_eq_getElem?_getD, List.getElem?_eq_getElem h2] at this
          exact this
      subst e
      subst hlen
      exact ⟨_, rfl, hown, Nat.le_refl _, hb⟩
end Go.Proofs.Ytmkfnhgaiheckaa
