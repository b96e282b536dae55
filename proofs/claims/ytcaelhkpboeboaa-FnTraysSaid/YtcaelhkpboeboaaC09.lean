/- Chapter 9: what its functions answer, the model's and the program's. -/
import Derived.Test.YtcaelhkpboeboaaIn
namespace Go.Proofs.Ytcaelhkpboeboaa
open Go.ChangeShapes Go.WideShapes Go.ChangeAt Go.RowKit
set_option linter.unusedVariables false
set_option linter.unusedSimpArgs false

def rowsV (l o g : Int) : Int := if inB l 1 1000 && inB o 1 500 && inB g 0 100 then (l + g) / (o + g) else -1
theorem rows_in (l o g : Int) : -1 ≤ rowsV l o g ∧ rowsV l o g ≤ 1100 := by
  unfold rowsV
  split
  · rename_i h
    simp only [Bool.and_eq_true] at h
    have h1 := inB_tt h.1.1
    have h2 := inB_tt h.1.2
    have h3 := inB_tt h.2
    have h4 : 0 ≤ (l + g) / (o + g) := Int.ediv_nonneg (by omega) (by omega)
    have h5 := Int.ediv_le_self (a := l + g) (o + g) (by omega)
    omega
  · omega
theorem iRowsFor (l o g : Int) (w : World) : Calls Try.prog 6 #[.int .i64 l, .int .i64 o, .int .i64 g] w (Same (i64 (rowsV l o g)) w) := by
  cases h1 : inB l 1 1000 <;> cases h2 : inB o 1 500 <;> cases h3 : inB g 0 100
  case true.true.true =>
    obtain ⟨b1, b2⟩ := inB_tt h1
    obtain ⟨b3, b4⟩ := inB_tt h2
    obtain ⟨b5, b6⟩ := inB_tt h3
    go_enter Try.func6, Try.ntmps6
    go_wp2_with (first | (go_at_call 11; refine (iIn _ _ _ _).mono ?_; rintro e w' ⟨rfl, rfl⟩) | go_in | (go_end0; simp only []; go_at_K))
    go_ret
    exact ⟨ret_int (by simp [rowsV, h1, h2, h3]), rfl⟩
  all_goals
    go_enter Try.func6, Try.ntmps6
    go_wp2_with (first | (go_at_call 11; refine (iIn _ _ _ _).mono ?_; rintro e w' ⟨rfl, rfl⟩) | go_in | (go_end0; simp only []; go_at_K))
    go_ret
    exact ⟨ret_int (by simp [rowsV, h1, h2, h3]), rfl⟩
def trayV (l y a b g : Int) : Int := if rowsV l a g < 0 ∨ rowsV y b g < 0 ∨ rowsV l b g < 0 ∨ rowsV y a g < 0 then -1 else max (rowsV l a g * rowsV y b g) (rowsV l b g * rowsV y a g)
def placedV (l y a b g : Int) : Int := if rowsV l a g < 0 ∨ rowsV y b g < 0 then -1 else rowsV l a g * rowsV y b g
theorem rows_neg (l o g : Int) : rowsV l o g < 0 ↔ (inB l 1 1000 && inB o 1 500 && inB g 0 100) = false := by
  unfold rowsV
  split
  · rename_i h
    rw [h]
    simp only [Bool.and_eq_true] at h
    have h1 := inB_tt h.1.1
    have h2 := inB_tt h.1.2
    have h3 := inB_tt h.2
    have h4 : 0 ≤ (l + g) / (o + g) := Int.ediv_nonneg (by omega) (by omega)
    simp; omega
  · rename_i h
    simp at h ⊢
    simpa using h
theorem tray_placed (l y a b g : Int) : max (max (-1) (placedV l y a b g)) (placedV l y b a g) = trayV l y a b g := by
  have n1 := rows_neg l a g
  have n2 := rows_neg y b g
  have n3 := rows_neg l b g
  have n4 := rows_neg y a g
  by_cases h : rowsV l a g < 0 ∨ rowsV y b g < 0
  · have h' : rowsV l b g < 0 ∨ rowsV y a g < 0 := by
      rw [n3, n4]; rw [n1, n2] at h
      clear n1 n2 n3 n4
      revert h
      generalize inB l 1 1000 = p1
      generalize inB y 1 1000 = p2
      generalize inB a 1 500 = p3
      generalize inB b 1 500 = p4
      generalize inB g 0 100 = p5
      revert p1 p2 p3 p4 p5
      decide
    have e1 : placedV l y a b g = -1 := if_pos h
    have e2 : placedV l y b a g = -1 := if_pos h'
    have e3 : trayV l y a b g = -1 := if_pos (by omega)
    rw [e1, e2, e3]; rfl
  · have h' : ¬ (rowsV l b g < 0 ∨ rowsV y a g < 0) := by
      rw [n3, n4]; rw [n1, n2] at h
      clear n1 n2 n3 n4
      revert h
      generalize inB l 1 1000 = p1
      generalize inB y 1 1000 = p2
      generalize inB a 1 500 = p3
      generalize inB b 1 500 = p4
      generalize inB g 0 100 = p5
      revert p1 p2 p3 p4 p5
      decide
    have e1 : placedV l y a b g = _ := if_neg h
    have e2 : placedV l y b a g = _ := if_neg h'
    have e3 : trayV l y a b g = _ := if_neg (by omega)
    rw [e1, e2, e3]
    have : 0 ≤ rowsV l a g * rowsV y b g := Int.mul_nonneg (by omega) (by omega)
    omega
theorem prod_in (l y a b g : Int) : -2000000 ≤ rowsV l a g * rowsV y b g ∧ rowsV l a g * rowsV y b g ≤ 2000000 := by
  have h1 := rows_in l a g
  have h2 := rows_in y b g
  have h3 : (rowsV l a g * rowsV y b g).natAbs ≤ 1100 * 1100 := by
    rw [Int.natAbs_mul]
    exact Nat.mul_le_mul (by omega) (by omega)
  omega
theorem iplaced0 (l y a b g : Int) (w : World) : Calls Try.prog 12 #[.int .i64 0, .int .i64 l, .int .i64 y, .int .i64 a, .int .i64 b, .int .i64 g] w (Same (i64 (placedV l y a b g)) w) := by
  by_cases h1 : rowsV l a g < 0 <;> by_cases h2 : rowsV y b g < 0
  all_goals
    obtain ⟨b1, b2⟩ := prod_in l y a b g
    go_enter Try.func12, Try.ntmps12
    go_wp2_with (first | (go_at_call 11; refine (iIn _ _ _ _).mono ?_; rintro e w' ⟨rfl, rfl⟩) | (go_at_call 6; refine (iRowsFor _ _ _ _).mono ?_; rintro e w' ⟨rfl, rfl⟩) | go_in | (go_end0; simp only []; go_at_K))
    all_goals
      go_ret
      refine ⟨ret_int ?_, rfl⟩
      unfold placedV
      split <;> omega
theorem iplaced1 (l y a b g : Int) (w : World) : Calls Try.prog 12 #[.int .i64 1, .int .i64 l, .int .i64 y, .int .i64 a, .int .i64 b, .int .i64 g] w (Same (i64 (placedV l y b a g)) w) := by
  by_cases h1 : rowsV l b g < 0 <;> by_cases h2 : rowsV y a g < 0
  all_goals
    obtain ⟨b1, b2⟩ := prod_in l y b a g
    go_enter Try.func12, Try.ntmps12
    go_wp2_with (first | (go_at_call 11; refine (iIn _ _ _ _).mono ?_; rintro e w' ⟨rfl, rfl⟩) | (go_at_call 6; refine (iRowsFor _ _ _ _).mono ?_; rintro e w' ⟨rfl, rfl⟩) | go_in | (go_end0; simp only []; go_at_K))
    all_goals
      go_ret
      refine ⟨ret_int ?_, rfl⟩
      unfold placedV
      split <;> omega
theorem placed_in (l y a b g : Int) : -1 ≤ placedV l y a b g ∧ placedV l y a b g ≤ 2000000 := by
  have h1 := prod_in l y a b g
  unfold placedV
  split
  · omega
  · have : 0 ≤ rowsV l a g * rowsV y b g := Int.mul_nonneg (by omega) (by omega)
    omega
theorem iOnTray (l y a b g : Int) (w : World) : Calls Try.prog 8 #[.int .i64 l, .int .i64 y, .int .i64 a, .int .i64 b, .int .i64 g] w (Same (i64 (trayV l y a b g)) w) := by
  rw [← tray_placed]
  go_enter Try.func8, Try.ntmps8
  go_wp2
  go_loop [11, 12] (fun t d => (d = .int .i64 0 ∧ t = .int .i64 (-1)) ∨ (d = .int .i64 1 ∧ t = .int .i64 (max (-1) (placedV l y a b g))) ∨ (d = .int .i64 2 ∧ t = .int .i64 (max (max (-1) (placedV l y a b g)) (placedV l y b a g)))) (fun _ d => 2 - (intOf d).toNat)
  case atStart => exact .inl ⟨rfl, rfl⟩
  case round =>
    have hp := placed_in l y a b g
    have hq := placed_in l y b a g
    rcases hrel with ⟨rfl, rfl⟩ | ⟨rfl, rfl⟩ | ⟨rfl, rfl⟩
    · go_wp2_with fail
      refine (iplaced0 l y a b g _).mono ?_
      rintro _ _ ⟨rfl, rfl⟩
      go_wp2
      all_goals
        go_round
        case rel => exact .inr (.inl ⟨by go_num, v_int (by omega)⟩)
        case measure => simp [intOf]
    · go_wp2_with fail
      refine (iplaced1 l y a b g _).mono ?_
      rintro _ _ ⟨rfl, rfl⟩
      go_wp2
      all_goals
        go_round
        case rel => exact .inr (.inr ⟨by go_num, v_int (by omega)⟩)
        case measure => simp [intOf]
    · go_wp2
      go_ret
      exact ⟨ret_int rfl, rfl⟩
theorem tray_in (l y a b g : Int) : -1 ≤ trayV l y a b g ∧ trayV l y a b g ≤ 2000000 := by
  have h1 := prod_in l y a b g
  have h2 := prod_in l y b a g
  unfold trayV
  split
  · omega
  · have : 0 ≤ rowsV l a g * rowsV y b g := Int.mul_nonneg (by omega) (by omega)
    omega
def traysV (n l y a b g : Int) : Int := if 1 ≤ trayV l y a b g ∧ inB n 0 10000 = true then (n + trayV l y a b g - 1) / trayV l y a b g else -1
theorem iTraysFor (n l y a b g : Int) (w : World) : Calls Try.prog 9 #[.int .i64 n, .int .i64 l, .int .i64 y, .int .i64 a, .int .i64 b, .int .i64 g] w (Same (i64 (traysV n l y a b g)) w) := by
  have ht := tray_in l y a b g
  have HV : Hid (traysV n l y a b g = if 1 ≤ trayV l y a b g ∧ inB n 0 10000 = true then (n + trayV l y a b g - 1) / trayV l y a b g else -1) := rfl
  by_cases h : 1 ≤ trayV l y a b g
  · cases h2 : inB n 0 10000
    · have HW : Hid (traysV n l y a b g = -1) := HV.out.trans (if_neg (by simp [h2]))
      go_enter Try.func9, Try.ntmps9
      go_wp2_with (first | (go_at_call 11; refine (iIn _ _ _ _).mono ?_; rintro e w' ⟨rfl, rfl⟩) | (go_at_call 8; refine (iOnTray _ _ _ _ _ _).mono ?_; rintro e w' ⟨rfl, rfl⟩) | go_in | (go_end0; simp only []; go_at_K))
      all_goals (go_ret; exact ⟨ret_int HW.out.symm, rfl⟩)
    · have HW : Hid (traysV n l y a b g = (n + trayV l y a b g - 1) / trayV l y a b g) := HV.out.trans (if_pos ⟨h, h2⟩)
      obtain ⟨b1, b2⟩ := inB_tt h2
      go_enter Try.func9, Try.ntmps9
      go_wp2_with (first | (go_at_call 11; refine (iIn _ _ _ _).mono ?_; rintro e w' ⟨rfl, rfl⟩) | (go_at_call 8; refine (iOnTray _ _ _ _ _ _).mono ?_; rintro e w' ⟨rfl, rfl⟩) | go_in | (go_end0; simp only []; go_at_K))
      all_goals (go_ret; exact ⟨ret_int HW.out.symm, rfl⟩)
  · have HW : Hid (traysV n l y a b g = -1) := HV.out.trans (if_neg (by simp [h]))
    have h' : trayV l y a b g ≤ 0 := by omega
    go_enter Try.func9, Try.ntmps9
    go_wp2_with (first | (go_at_call 11; refine (iIn _ _ _ _).mono ?_; rintro e w' ⟨rfl, rfl⟩) | (go_at_call 8; refine (iOnTray _ _ _ _ _ _).mono ?_; rintro e w' ⟨rfl, rfl⟩) | go_in | (go_end0; simp only []; go_at_K))
    all_goals (go_ret; exact ⟨ret_int HW.out.symm, rfl⟩)
/-- the greatest n below k with p -/
def lastG (p : Int → Bool) : Nat → Int
  | 0 => -1
  | k + 1 => if p k then k else lastG p k
theorem lastG_step (p : Int → Bool) (g : Int) (h : 0 ≤ g) : lastG p (g + 1).toNat = if p g then g else lastG p g.toNat := by
  obtain ⟨k, rfl⟩ := Int.eq_ofNat_of_zero_le h
  have : ((k : Int) + 1).toNat = k + 1 := by omega
  rw [this]
  simp [lastG]
theorem lastG_none (p : Int → Bool) (k : Nat) (h : ∀ g, p g = false) : lastG p k = -1 := by
  induction k with
  | zero => rfl
  | succ k ih => simp [lastG, h, ih]
def gapP (l o n g : Int) : Bool := decide (n ≤ rowsV l o g)
def widestV (l o n : Int) : Int := if inB n 0 1000 = true then lastG (gapP l o n) 101 else -1
theorem widest_none (l o n : Int) (h1 : inB n 0 1000 = true) (h : rowsV l o 0 < 0) : lastG (gapP l o n) 101 = -1 := by
  apply lastG_none
  intro g
  have hn := inB_tt h1
  have e0 := (rows_neg l o 0).1 h
  have e : rowsV l o g < 0 := by
    rw [rows_neg]
    have : inB 0 0 100 = true := by decide
    rw [this] at e0
    simp at e0 ⊢
    intro h2 h3
    rw [e0 h2] at h3
    cases h3
  simp [gapP]; omega
theorem iWidestGap (l o n : Int) (w : World) : Calls Try.prog 10 #[.int .i64 l, .int .i64 o, .int .i64 n] w (Same (i64 (widestV l o n)) w) := by
  cases h1 : inB n 0 1000
  · have HW : Hid (widestV l o n = -1) := Lib.hid (by simp [widestV, h1])
    by_cases hr : rowsV l o 0 < 0
    all_goals
      go_enter Try.func10, Try.ntmps10
      go_wp2_with (first | (go_at_call 11; refine (iIn _ _ _ _).mono ?_; rintro e w' ⟨rfl, rfl⟩) | (go_at_call 6; refine (iRowsFor _ _ _ _).mono ?_; rintro e w' ⟨rfl, rfl⟩) | go_in | (go_end0; simp only []; go_at_K))
      go_ret
      exact ⟨ret_int HW.out.symm, rfl⟩
  · have hV : widestV l o n = lastG (gapP l o n) 101 := by simp [widestV, h1]
    have HV := Lib.hid hV
    clear hV
    by_cases hr : rowsV l o 0 < 0
    · have HW := Lib.hid (widest_none l o n h1 hr)
      go_enter Try.func10, Try.ntmps10
      go_wp2_with (first | (go_at_call 11; refine (iIn _ _ _ _).mono ?_; rintro e w' ⟨rfl, rfl⟩) | (go_at_call 6; refine (iRowsFor _ _ _ _).mono ?_; rintro e w' ⟨rfl, rfl⟩) | go_in | (go_end0; simp only []; go_at_K))
      go_ret
      exact ⟨ret_int (by rw [HV.out, HW.out]), rfl⟩
    obtain ⟨b1, b2⟩ := inB_tt h1
    go_enter Try.func10, Try.ntmps10
    go_wp2_with (first | (go_at_call 11; refine (iIn _ _ _ _).mono ?_; rintro e w' ⟨rfl, rfl⟩) | (go_at_call 6; refine (iRowsFor _ _ _ _).mono ?_; rintro e w' ⟨rfl, rfl⟩) | go_in | (go_end0; simp only []; go_at_K))
    clear h1 hr
    go_loop [7] (fun t => ∃ g : Int, -1 ≤ g ∧ g ≤ 100 ∧ t = .int .i64 g ∧ lastG (gapP l o n) 101 = lastG (gapP l o n) (g + 1).toNat) (fun t => (intOf t + 1).toNat)
    case atStart => exact ⟨100, by omega, by omega, rfl, rfl⟩
    case round =>
      obtain ⟨g, g1, g2, rfl, hg⟩ := hrel
      have HG := Lib.hid hg
      clear hg
      by_cases h0 : 0 ≤ g
      · have HS := Lib.hid (lastG_step (gapP l o n) g h0)
        by_cases hp : n ≤ rowsV l o g
        · have HP : Hid (gapP l o n g = true) := Lib.hid (by simp [gapP, hp])
          have hp0 : 0 ≤ rowsV l o g := by omega
          go_wp2_with (first | (go_at_call 11; refine (iIn _ _ _ _).mono ?_; rintro e w' ⟨rfl, rfl⟩) | (go_at_call 6; refine (iRowsFor _ _ _ _).mono ?_; rintro e w' ⟨rfl, rfl⟩) | go_in | (go_end0; simp only []; go_at_K))
          go_ret
          exact ⟨ret_int (by rw [HV.out, HG.out, HS.out, if_pos HP.out]), rfl⟩
        · have HP : Hid (gapP l o n g = false) := Lib.hid (by simp [gapP]; omega)
          go_wp2_with (first | (go_at_call 11; refine (iIn _ _ _ _).mono ?_; rintro e w' ⟨rfl, rfl⟩) | (go_at_call 6; refine (iRowsFor _ _ _ _).mono ?_; rintro e w' ⟨rfl, rfl⟩) | go_in | (go_end0; simp only []; go_at_K))
          all_goals
            go_round
            case rel => exact ⟨g - 1, by omega, by omega, rfl, by rw [HG.out, HS.out, HP.out]; simp⟩
            case measure => simp [intOf]; omega
      · have hg' : g = -1 := by omega
        subst hg'
        go_wp2_with (first | (go_at_call 11; refine (iIn _ _ _ _).mono ?_; rintro e w' ⟨rfl, rfl⟩) | go_in | (go_end0; simp only []; go_at_K))
        go_ret
        exact ⟨ret_int (by rw [HV.out, HG.out]; rfl), rfl⟩
end Go.Proofs.Ytcaelhkpboeboaa
