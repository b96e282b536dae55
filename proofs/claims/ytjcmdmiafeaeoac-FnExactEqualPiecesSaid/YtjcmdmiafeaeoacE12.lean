/- Chapter 12: EqualPieces. -/
import Derived.Test.YtjcmdmiafeaeoacIn
import Derived.Test.YtjcmdmiafeaeoacIntI
import Derived.Test.YtjcmdmiafeaeoacOwnI
import Derived.Test.YtjcmdmiafeaeoacMap
namespace Go.Proofs.Ytjcmdmiafeaeoac
open Go.ChangeShapes Go.WideShapes Go.ChangeAt Go.RowKit
set_option linter.unusedVariables false
set_option linter.unusedSimpArgs false

def eqG (d : Int) (n : Nat) (i : Nat) : Int := d / (n : Int) + (if (i : Int) < d % (n : Int) then 1 else 0)
def EqualPiecesL (d m : Int) : List Int := if inB m 1 40 && inB d m 200000 then mapTo (eqG d m.toNat) m.toNat else []
theorem EqualPiecesL_len (d m : Int) : (EqualPiecesL d m).length ≤ 40 := by
  unfold EqualPiecesL
  split
  · rename_i h
    simp only [Bool.and_eq_true] at h
    have := inB_tt h.1
    rw [mapTo_len]; omega
  · simp
theorem eq_in {d : Int} {n : Nat} (h1 : 1 ≤ n) (h2 : n ≤ 40) (h3 : (n : Int) ≤ d) (h4 : d ≤ 200000) : 0 ≤ d / (n : Int) ∧ d / (n : Int) ≤ 200000 ∧ 0 ≤ d % (n : Int) ∧ d % (n : Int) < n := by
  have e1 : 0 ≤ d / (n : Int) := Int.ediv_nonneg (by omega) (by omega)
  have e2 := Int.ediv_le_self (a := d) (n : Int) (by omega)
  have e3 := Int.emod_nonneg d (show (n : Int) ≠ 0 by omega)
  have e4 := Int.emod_lt_of_pos d (show (0 : Int) < n by omega)
  omega
set_option maxHeartbeats 2000000 in
theorem sEqualPieces (d m : Int) (w : World) : Calls Try.prog 28 #[.int .i64 d, .int .i64 m] w (RowB (EqualPiecesL d m) w) := by
  obtain ⟨i0, hi0, hz0, hz1, hz2⟩ := info_parts infoI
  have hown0 := own_new w 3 w.heap.size (Nat.le_refl _)
  have hw0 : In w.heap.size w (w.alloc (.cells #[] 3)) := (In.refl w).alloc _
  cases h1 : inB m 1 40
  · have HV : Hid (EqualPiecesL d m = []) := Lib.hid (by simp [EqualPiecesL, h1])
    go_enter Try.func28, Try.ntmps28
    go_wp2_with (first | (go_at_call 29; refine (sIn _ _ _ _).mono ?_; rintro e w' ⟨rfl, rfl⟩) | (go_at_call 30; refine (iIn _ _ _ _).mono ?_; rintro e w' ⟨rfl, rfl⟩) | go_in | (go_end0; simp only []; go_at_K))
    go_ret
    rw [HV.out]
    exact ⟨_, _, rfl, hown0, hw0.below⟩
  cases h2 : inB d m 200000
  · have HV : Hid (EqualPiecesL d m = []) := Lib.hid (by simp [EqualPiecesL, h2])
    go_enter Try.func28, Try.ntmps28
    go_wp2_with (first | (go_at_call 29; refine (sIn _ _ _ _).mono ?_; rintro e w' ⟨rfl, rfl⟩) | (go_at_call 30; refine (iIn _ _ _ _).mono ?_; rintro e w' ⟨rfl, rfl⟩) | go_in | (go_end0; simp only []; go_at_K))
    go_ret
    rw [HV.out]
    exact ⟨_, _, rfl, hown0, hw0.below⟩
  have HV : Hid (EqualPiecesL d m = mapTo (eqG d m.toNat) m.toNat) := Lib.hid (by simp [EqualPiecesL, h1, h2])
  obtain ⟨m1, m2⟩ := inB_tt h1
  obtain ⟨d1, d2⟩ := inB_tt h2
  obtain ⟨n, rfl⟩ : ∃ n : Nat, m = n := ⟨m.toNat, by omega⟩
  have hmn : (n : Int).toNat = n := by omega
  rw [hmn] at HV
  obtain ⟨q1, q2, q3, q4⟩ := eq_in (d := d) (n := n) (by omega) (by omega) d1 d2
  have hn0 : (n : Int) ≠ 0 := by omega
  go_enter Try.func28, Try.ntmps28
  go_wp2_with (first | (go_at_call 29; refine (sIn _ _ _ _).mono ?_; rintro e w' ⟨rfl, rfl⟩) | (go_at_call 30; refine (iIn _ _ _ _).mono ?_; rintro e w' ⟨rfl, rfl⟩) | go_in | (go_end0; simp only []; go_at_K))
  clear h1 h2
  go_loopw [5, 6] (fun v i wr => ∃ (k : Nat), k ≤ n ∧ i = .int .i64 k ∧ wr.ownsRow w.heap.size 3 1 v k (iv (mapTo (eqG d n) k)) ∧ In w.heap.size w wr) (fun _ i _ => n - (intOf i).toNat)
  case atStart => exact ⟨0, Nat.zero_le _, rfl, hown0, hw0⟩
  case round =>
    clear hown0 hw0
    obtain ⟨k, hk, rfl, hown, hi⟩ := hrel
    obtain ⟨A1, c1, rfl⟩ := own_shape_i hown
    by_cases hlt : k < n
    · have HS := Lib.hid (mapTo_succ (eqG d n) k)
      have HE : Hid (eqG d n k = d / (n : Int) + (if (k : Int) < d % (n : Int) then 1 else 0)) := Lib.hid rfl
      have hk40 : k ≤ 40 := by omega
      by_cases hg : (k : Int) < d % (n : Int)
      · have hv : eqG d n k = d / (n : Int) + 1 := by rw [HE.out, if_pos hg]
        rw [hv] at HS
        clear hv HE
        have F1 : Hid (∀ u ∈ (#[Value.int .i64 (d / (n : Int) + 1)] : Array Value).toList, u.oneCell' = true) := Lib.hid (by intro u hu; simp at hu; subst hu; rfl)
        have f12 : k + 1 ≤ maxLen := by unfold maxLen; omega
        have f13 : (k + 1) * 8 ≤ 140737488355328 := by omega
        have hB1 : w.heap.size ≤ wr.heap.size := In.size (B := w.heap.size) (a := w) (by (repeat (first | exact In.refl _ | assumption | apply In.alloc | apply In.drewN | apply In.drew | (refine In.step ?_ (by assumption)))))
        go_wp2_with (first | (go_at_call 29; refine (sIn _ _ _ _).mono ?_; rintro e w' ⟨rfl, rfl⟩) | (go_at_call 30; refine (iIn _ _ _ _).mono ?_; rintro e w' ⟨rfl, rfl⟩) | (at_builtin; refine wpList_app wr rfl (.tmp 34) (.tmp 36) 26 rfl w.heap.size 3 i0 (.int .i64 0) 1 8 Try.underlying26 hi0 hz0 hz1 hz2 rfl Nat.one_pos (.slice A1 k c1) (k) (iv (mapTo (eqG d n) k)) rfl hown 1 #[.int .i64 (d / (n : Int) + 1)] rfl rfl F1.out f12 f13 hB1 ?_; intro v1 w1 hown1 hbw1) | go_in | (go_end0; simp only []; go_at_K))
        have hi1 : In w.heap.size w w1 := In.wide hi hbw1
        have hown2 : w1.ownsRow w.heap.size 3 1 v1 (k + 1) (iv (mapTo (eqG d n) (k + 1))) := by rw [HS.out, iv_app]; exact hown1
        clear hown1 hbw1 hown f12 f13 hB1
        go_wp2
        go_roundw
        case rel => exact ⟨k + 1, by omega, by go_num, hown2, hi1⟩
        case measure => simp [intOf]; omega
      · have hv : eqG d n k = d / (n : Int) := by rw [HE.out, if_neg hg]; simp
        rw [hv] at HS
        clear hv HE
        have F1 : Hid (∀ u ∈ (#[Value.int .i64 (d / (n : Int))] : Array Value).toList, u.oneCell' = true) := Lib.hid (by intro u hu; simp at hu; subst hu; rfl)
        have f12 : k + 1 ≤ maxLen := by unfold maxLen; omega
        have f13 : (k + 1) * 8 ≤ 140737488355328 := by omega
        have hB1 : w.heap.size ≤ wr.heap.size := In.size (B := w.heap.size) (a := w) (by (repeat (first | exact In.refl _ | assumption | apply In.alloc | apply In.drewN | apply In.drew | (refine In.step ?_ (by assumption)))))
        go_wp2_with (first | (go_at_call 29; refine (sIn _ _ _ _).mono ?_; rintro e w' ⟨rfl, rfl⟩) | (go_at_call 30; refine (iIn _ _ _ _).mono ?_; rintro e w' ⟨rfl, rfl⟩) | (at_builtin; refine wpList_app wr rfl (.tmp 34) (.tmp 36) 26 rfl w.heap.size 3 i0 (.int .i64 0) 1 8 Try.underlying26 hi0 hz0 hz1 hz2 rfl Nat.one_pos (.slice A1 k c1) (k) (iv (mapTo (eqG d n) k)) rfl hown 1 #[.int .i64 (d / (n : Int))] rfl rfl F1.out f12 f13 hB1 ?_; intro v1 w1 hown1 hbw1) | go_in | (go_end0; simp only []; go_at_K))
        have hi1 : In w.heap.size w w1 := In.wide hi hbw1
        have hown2 : w1.ownsRow w.heap.size 3 1 v1 (k + 1) (iv (mapTo (eqG d n) (k + 1))) := by rw [HS.out, iv_app]; exact hown1
        clear hown1 hbw1 hown f12 f13 hB1
        go_wp2
        go_roundw
        case rel => exact ⟨k + 1, by omega, by go_num, hown2, hi1⟩
        case measure => simp [intOf]; omega
    · obtain rfl : k = n := by omega
      go_wp2
      go_ret
      rw [HV.out]
      exact rowB_of (mapTo_len _ _) hown hi.below
set_option maxHeartbeats 2000000 in
theorem iEqualPieces (d m : Int) (w : World) : Calls Try.prog 16 #[.int .i64 d, .int .i64 m] w (RowB (EqualPiecesL d m) w) := by
  obtain ⟨i0, hi0, hz0, hz1, hz2⟩ := info_parts infoI
  cases h1 : inB m 1 40
  · have HV : Hid (EqualPiecesL d m = []) := Lib.hid (by simp [EqualPiecesL, h1])
    go_enter Try.func16, Try.ntmps16
    go_wp2_with (first | (go_at_call 29; refine (sIn _ _ _ _).mono ?_; rintro e w' ⟨rfl, rfl⟩) | (go_at_call 30; refine (iIn _ _ _ _).mono ?_; rintro e w' ⟨rfl, rfl⟩) | go_in | (go_end0; simp only []; go_at_K))
    go_ret
    rw [HV.out]
    exact rowB_nil _ _ (In.refl _)
  cases h2 : inB d m 200000
  · have HV : Hid (EqualPiecesL d m = []) := Lib.hid (by simp [EqualPiecesL, h2])
    go_enter Try.func16, Try.ntmps16
    go_wp2_with (first | (go_at_call 29; refine (sIn _ _ _ _).mono ?_; rintro e w' ⟨rfl, rfl⟩) | (go_at_call 30; refine (iIn _ _ _ _).mono ?_; rintro e w' ⟨rfl, rfl⟩) | go_in | (go_end0; simp only []; go_at_K))
    go_ret
    rw [HV.out]
    exact rowB_nil _ _ (In.refl _)
  have HV : Hid (EqualPiecesL d m = mapTo (eqG d m.toNat) m.toNat) := Lib.hid (by simp [EqualPiecesL, h1, h2])
  obtain ⟨m1, m2⟩ := inB_tt h1
  obtain ⟨d1, d2⟩ := inB_tt h2
  obtain ⟨n, rfl⟩ : ∃ n : Nat, m = n := ⟨m.toNat, by omega⟩
  have hmn : (n : Int).toNat = n := by omega
  rw [hmn] at HV
  obtain ⟨q1, q2, q3, q4⟩ := eq_in (d := d) (n := n) (by omega) (by omega) d1 d2
  have hn0 : (n : Int) ≠ 0 := by omega
  go_enter Try.func16, Try.ntmps16
  go_wp2_with (first | (go_at_call 29; refine (sIn _ _ _ _).mono ?_; rintro e w' ⟨rfl, rfl⟩) | (go_at_call 30; refine (iIn _ _ _ _).mono ?_; rintro e w' ⟨rfl, rfl⟩) | (at_make; refine wpList_make_full _ rfl (.tmp 16) (.tmp 16) 26 rfl w.heap.size 3 i0 (.int .i64 0) 1 Try.underlying26 hi0 hz0 hz1 .i64 .i64 (n : Int) (n : Int) n rfl rfl rfl rfl ?h2 ?h3 ?h4 ?_) | go_in | (go_end0; simp only []; go_at_K))
  case h2 => rw [hz2]; omega
  case h3 => unfold maxLen; omega
  case h4 => exact Nat.le_refl _
  intro w1 hown0 hgrow0
  have hb0 : Below w.heap.size w w1 := (Below.refl _ _).grown hgrow0 (Nat.le_refl _) (fun j hj => by cases hj)
  clear hgrow0 h1 h2
  have hown1 : w1.ownsRow w.heap.size 3 1 (.slice (some ⟨w.heap.size, 0, none⟩) n n) n (iv (List.replicate n 0)) := by
    rw [toList_madeCells_one, iv_zeros] at hown0; exact hown0
  clear hown0
  go_wp2
  go_loopw [20] (fun i wr => ∃ (k : Nat) (l : List Int), k ≤ n ∧ i = .int .i64 k ∧ l.length = n ∧ wr.ownsRow w.heap.size 3 1 (.slice (some ⟨w.heap.size, 0, none⟩) n n) n (iv l) ∧ (∀ t, t < k → l.getD t 0 = (mapTo (eqG d n) n).getD t 0) ∧ Below w.heap.size w wr) (fun i _ => n - (intOf i).toNat)
  case atStart => exact ⟨0, _, Nat.zero_le _, rfl, by simp, hown1, fun t ht => absurd ht (Nat.not_lt_zero _), hb0⟩
  case round =>
    clear hown1 hb0
    obtain ⟨k, l, hk, rfl, hl, hown, hs, hb⟩ := hrel
    have HL := Lib.hid hl
    have HS := Lib.hid hs
    clear hl hs
    by_cases hlt : k < n
    · have hE : (mapTo (eqG d n) n).getD k 0 = d / (n : Int) + (if (k : Int) < d % (n : Int) then 1 else 0) := mapTo_at _ _ _ hlt
      have HE := Lib.hid hE
      clear hE
      have hc := hown.cellAt k (by omega)
      rw [iv_at l k (by have := HL.out; omega)] at hc
      have hf := hown.frozenAt k
      have hst := (hown.stored k (.int .i64 (d / (n : Int)))).1
      have hf2 := hst.frozenAt k
      have hc2 : (wr.setCell ⟨w.heap.size, k, none⟩ (.int .i64 (d / (n : Int)))).cell? ⟨w.heap.size, k, none⟩ = some (.int .i64 (d / (n : Int))) := World.cell?_setCell_same _ _ _ hc
      have hst2 := (hst.stored k (.int .i64 (d / (n : Int) + 1))).1
      rw [← iv_set] at hst
      rw [← iv_set, ← iv_set] at hst2
      have hb1 : Below w.heap.size w (wr.setCell ⟨w.heap.size, k, none⟩ (.int .i64 (d / (n : Int)))) := hb.setCell (Nat.le_refl _) _
      have hb2 := hb1.setCell (p := ⟨w.heap.size, k, none⟩) (Nat.le_refl _) (.int .i64 (d / (n : Int) + 1))
      generalize l.getD k 0 = y0 at hc
      clear hown
      by_cases hg : (k : Int) < d % (n : Int)
      · go_wp2
        go_roundw
        case rel => exact ⟨k + 1, (l.set k (d / (n : Int))).set k (d / (n : Int) + 1), by omega, by go_num, by have := HL.out; simp; omega, hst2, fun t ht => by
            by_cases e : t = k
            · subst e; have := HL.out; rw [HE.out, if_pos hg]; simp [show t < l.length from by omega]
            · have := HS.out t (by omega); rw [← this]; simp [show ¬ k = t from fun h => e h.symm], hb2⟩
        case measure => simp [intOf]; omega
      · go_wp2
        go_roundw
        case rel => exact ⟨k + 1, l.set k (d / (n : Int)), by omega, by go_num, by have := HL.out; simp; omega, hst, fun t ht => by
            by_cases e : t = k
            · subst e; have := HL.out; rw [HE.out, if_neg hg]; simp [show t < l.length from by omega]
            · have := HS.out t (by omega); rw [← this]; simp [show ¬ k = t from fun h => e h.symm], hb1⟩
        case measure => simp [intOf]; omega
    · obtain rfl : k = n := by omega
      go_wp2
      go_ret
      have e : l = mapTo (eqG d k) k := list_at (by rw [HL.out, mapTo_len]) fun t ht => HS.out t (by have := HL.out; omega)
      rw [HV.out]
      rw [e] at hown
      exact rowB_of (mapTo_len _ _) hown hb
end Go.Proofs.Ytjcmdmiafeaeoac
