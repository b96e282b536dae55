/- Chapter 9: PlacesOf. -/
import Derived.Test.YtcaelhkpboeboaaC09
import Derived.Test.YtcaelhkpboeboaaIntI
namespace Go.Proofs.Ytcaelhkpboeboaa
open Go.ChangeShapes Go.WideShapes Go.ChangeAt Go.RowKit
set_option linter.unusedVariables false
set_option linter.unusedSimpArgs false

def plL (d : Int) (k : Nat) : List Int := (List.range k).map fun (i : Nat) => ((i : Nat) : Int) * d
theorem plL_len (d : Int) (k : Nat) : (plL d k).length = k := by simp [plL]
theorem plL_succ (d : Int) (k : Nat) : plL d (k + 1) = plL d k ++ [(k : Int) * d] := by simp [plL, List.range_succ]
theorem plL_at (d : Int) (k i : Nat) (h : i < k) : (plL d k).getD i 0 = (i : Int) * d := by simp [plL, h]
def PlacesOfL (l o g : Int) : List Int := plL (o + g) (rowsV l o g).toNat
theorem PlacesOfL_len (l o g : Int) : (PlacesOfL l o g).length ≤ 100000 := by
  have := rows_in l o g
  rw [PlacesOfL, plL_len]; omega
theorem rows_pos {l o g : Int} (h : 0 ≤ rowsV l o g) : 1 ≤ o + g ∧ o + g ≤ 600 := by
  have h1 := mt (rows_neg l o g).2 (by omega)
  simp at h1
  have h2 := inB_tt h1.2.1
  have h3 := inB_tt h1.2.2
  omega
set_option maxHeartbeats 1000000 in
theorem iPlacesOfR (l o g : Int) (w : World) : Calls Try.prog 7 #[.int .i64 l, .int .i64 o, .int .i64 g] w (RowB (PlacesOfL l o g) w) := by
  obtain ⟨i0, hi0, hz0, hz1, hz2⟩ := info_parts infoI
  obtain ⟨n1, n2⟩ := rows_in l o g
  by_cases hneg : rowsV l o g < 0
  · have HV : Hid (PlacesOfL l o g = []) := Lib.hid (by rw [PlacesOfL, show (rowsV l o g).toNat = 0 from by omega]; rfl)
    go_enter Try.func7, Try.ntmps7
    go_wp2_with (first | (go_at_call 11; refine (iIn _ _ _ _).mono ?_; rintro e w' ⟨rfl, rfl⟩) | (go_at_call 6; refine (iRowsFor _ _ _ _).mono ?_; rintro e w' ⟨rfl, rfl⟩) | go_in | (go_end0; simp only []; go_at_K))
    go_ret
    rw [HV.out]
    exact rowB_nil _ _ (In.refl _)
  obtain ⟨p1, p2⟩ := rows_pos (show 0 ≤ rowsV l o g by omega)
  have hoa : -100000 ≤ o ∧ o ≤ 100000 ∧ -100000 ≤ g ∧ g ≤ 100000 := by
    have h1 := mt (rows_neg l o g).2 (by omega)
    simp at h1
    have h2 := inB_tt h1.2.1
    have h3 := inB_tt h1.2.2
    omega
  obtain ⟨o1, o2, o3, o4⟩ := hoa
  have HV : Hid (PlacesOfL l o g = plL (o + g) (rowsV l o g).toNat) := Lib.hid rfl
  obtain ⟨n, hn⟩ : ∃ n : Nat, rowsV l o g = n := ⟨(rowsV l o g).toNat, by omega⟩
  have HN := Lib.hid hn
  have hn1 : n ≤ 1100 := by omega
  have hn0 : 0 ≤ (n : Int) := by omega
  clear hn hneg n1 n2
  go_enter Try.func7, Try.ntmps7
  go_wp2_with fail
  refine (iRowsFor _ _ _ _).mono ?_
  rintro _ _ ⟨rfl, rfl⟩
  rw [HN.out]
  go_wp2_with (at_make; refine wpList_make_full _ rfl (.tmp 16) (.tmp 16) 26 rfl w.heap.size 3 i0 (.int .i64 0) 1 Try.underlying26 hi0 hz0 hz1 .i64 .i64 (n : Int) (n : Int) n rfl rfl rfl rfl ?h2 ?h3 ?h4 ?_)
  case h2 => rw [hz2]; omega
  case h3 => unfold maxLen; omega
  case h4 => exact Nat.le_refl _
  intro w1 hown0 hgrow0
  have hb0 : Below w.heap.size w w1 := (Below.refl _ _).grown hgrow0 (Nat.le_refl _) (fun j hj => by cases hj)
  clear hgrow0
  have hown1 : w1.ownsRow w.heap.size 3 1 (.slice (some ⟨w.heap.size, 0, none⟩) n n) n (iv (List.replicate n 0)) := by
    rw [toList_madeCells_one, iv_zeros] at hown0; exact hown0
  clear hown0
  go_wp2
  go_loopw [20] (fun i wr => ∃ (k : Nat) (l : List Int), k ≤ n ∧ i = .int .i64 k ∧ l.length = n ∧ wr.ownsRow w.heap.size 3 1 (.slice (some ⟨w.heap.size, 0, none⟩) n n) n (iv l) ∧ (∀ t, t < k → l.getD t 0 = (plL (o + g) n).getD t 0) ∧ Below w.heap.size w wr) (fun i _ => n - (intOf i).toNat)
  case atStart => exact ⟨0, _, Nat.zero_le _, rfl, by simp, hown1, fun t ht => absurd ht (Nat.not_lt_zero _), hb0⟩
  case round =>
    clear hown1 hb0
    obtain ⟨k, l, hk, rfl, hl, hown, hs, hb⟩ := hrel
    have HL := Lib.hid hl
    have HS := Lib.hid hs
    clear hl hs
    by_cases hlt : k < n
    · obtain ⟨m1, m2⟩ := mul_in (by omega : (0 : Int) ≤ k) (by omega : (k : Int) ≤ 1100) (by omega : 0 ≤ o + g) p2
      have hc := hown.cellAt k (by omega)
      rw [iv_at l k (by have := HL.out; omega)] at hc
      have hf := hown.frozenAt k
      have hst := (hown.stored k (.int .i64 ((k : Int) * (o + g)))).1
      rw [← iv_set] at hst
      have hb1 : Below w.heap.size w (wr.setCell ⟨w.heap.size, k, none⟩ (.int .i64 ((k : Int) * (o + g)))) := hb.setCell (Nat.le_refl _) _
      generalize l.getD k 0 = y0 at hc
      clear hown
      go_wp2
      have HC := Lib.hid hc
      clear hc hf
      go_roundw
      case rel => exact ⟨k + 1, l.set k ((k : Int) * (o + g)), by omega, by go_num, by have := HL.out; simp; omega, hst, fun t ht => by
          by_cases e : t = k
          · subst e; have := HL.out; rw [plL_at _ _ _ hlt]; simp [show t < l.length from by omega]
          · have := HS.out t (by omega); rw [← this]; simp [show ¬ k = t from fun h => e h.symm], hb1⟩
      case measure => simp [intOf]; omega
    · obtain rfl : k = n := by omega
      go_wp2
      go_ret
      have e : l = plL (o + g) k := list_at (by rw [HL.out, plL_len]) fun t ht => HS.out t (by have := HL.out; omega)
      rw [HV.out, HN.out, show ((k : Int)).toNat = k from by omega]
      rw [e] at hown
      exact rowB_of (plL_len _ _) hown hb
end Go.Proofs.Ytcaelhkpboeboaa
