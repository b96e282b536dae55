import Derived.Test.YtbnmbnkgpggnmaaSplitI
namespace Go.Proofs.Ytbnmbnkgpggnmaa
open Go.ChangeShapes Go.WideShapes Go.ChangeAt Go.RowKit
set_option linter.unusedVariables false

/-- what both answer -/
theorem split_res (s : ByteArray) : ∃ (xs : List ByteArray) (b : Bool), xs.length ≤ 24 ∧
    ((∀ i, i < s.size → ¬ bad (chr s i)) → (fields s).length ≤ 24 → xs = fields s ∧ b = true) ∧
    (((∃ i, i < s.size ∧ bad (chr s i)) ∨ 24 < (fields s).length) → xs = [] ∧ b = false) := by
  by_cases h : (∃ i, i < s.size ∧ bad (chr s i)) ∨ 24 < (fields s).length
  · refine ⟨[], false, by simp, fun h1 h2 => ?_, fun _ => ⟨rfl, rfl⟩⟩
    rcases h with ⟨i, hi, hb⟩ | h
    · exact absurd hb (h1 i hi)
    · omega
  · refine ⟨fields s, true, ?_, fun _ _ => ⟨rfl, rfl⟩, fun h' => absurd h' h⟩
    have : ¬ 24 < (fields s).length := fun h' => h (.inr h')
    omega

theorem split_both (s : ByteArray) (hs : s.size ≤ maxLen) : ∃ (xs : List ByteArray) (b : Bool), xs.length ≤ 24 ∧
    (∀ W, Calls Try.prog 15 #[.string s] W (Fielded xs b W)) ∧ (∀ W, Calls Try.prog 16 #[.string s] W (Fielded xs b W)) := by
  by_cases h : (s.size : Int) ≤ 600
  · obtain ⟨xs, b, hl, hg, hb⟩ := split_res s
    exact ⟨xs, b, hl, fun W => specSplit s W h xs b hg hb, fun W => implSplit s W h xs b hg hb⟩
  · exact ⟨[], false, by simp, fun W => specSplit_long s W hs (by omega), fun W => implSplit_long s W hs (by omega)⟩

set_option maxHeartbeats 2000000 in
theorem walk_FnExactSplitFields (s : ByteArray) (hs : s.size ≤ maxLen) (w : World) :
    Calls Try.prog 6 #[.string s] w fun e w' => e = .returned (.bool true) ∧ Below w.heap.size w w' := by
  obtain ⟨xs, b, hl, C1, C2⟩ := split_both s hs
  have H1 := Lib.hid C1
  have H2 := Lib.hid C2
  clear C1 C2
  have hs' := hs
  unfold maxLen at hs'
  by_cases h2 : (s.size : Int) ≤ 1048576
  · go_enter Try.func6, Try.ntmps6
    go_wp2_with fail
    refine (H1.out _).mono ?_
    rintro e w1 ⟨A1, c1, rfl, hown1, hb1⟩
    go_wp2_with fail
    refine (H2.out _).mono ?_
    rintro e w2 ⟨A2, c2, rfl, hown2, hb2⟩
    have hown1' := own_below hown1 hb2 (Nat.le_refl _)
    have hB1 := hb1.size
    have hbw2 := hb1.trans (hb2.mono hB1)
    go_wp2_with fail
    refine (eqS_c A2 A1 xs.length c2 c1 xs w2 (by unfold maxLen; omega) (reads_own hown2) (reads_own hown1')).mono ?_
    rintro e w3 ⟨rfl, hb3⟩
    have hown2' := own_below hown2 hb3 (Nat.le_refl _)
    have hown1'' := own_below hown1' hb3 (Nat.le_refl _)
    have hbw3 := hbw2.trans (hb3.mono hbw2.size)
    have hB13 : w1.heap.size ≤ w3.heap.size := Nat.le_trans hb2.size hb3.size
    go_wp2_with fail
    refine (markS_c A2 xs.length c2 1 w1.heap.size xs w3 (by omega) (by omega) (by omega) hB13 hown2').mono ?_
    rintro e w4 ⟨rfl, hown4, hb4⟩
    have hown1q : w4.ownsRow w.heap.size 9 1 (.slice A1 xs.length c1) xs.length (sv xs) := own_below_at hown1'' hb4 (own_lt hown1)
    have hbw4 : Below w.heap.size w w4 := hbw3.trans (hb4.mono hB1)
    clear hown2 hown2' hown1 hown1' hown1''
    go_wp2_with fail
    refine (heldS_c A2 xs.length c2 1 w1.heap.size w4 (by omega) (by omega) (by omega) hown4).mono ?_
    rintro e w5 ⟨rfl, hb5⟩
    have hown5 := own_below hown4 hb5 (Nat.le_refl _)
    have hown1r := own_below hown1q hb5 (Nat.le_refl _)
    have hbw5 := hbw4.trans (hb5.mono hbw4.size)
    go_wp2_with fail
    refine (H2.out _).mono ?_
    rintro e w6 ⟨A6, c6, rfl, hown6, hb6⟩
    have hown1s := own_below hown1r hb6 (Nat.le_refl _)
    have hown5s := own_below hown5 hb6 (Nat.le_refl _)
    have hbw6 := hbw5.trans (hb6.mono hbw5.size)
    go_wp2_with fail
    refine (eqS_c A6 A1 xs.length c6 c1 xs w6 (by unfold maxLen; omega) (reads_own hown6) (reads_own hown1s)).mono ?_
    rintro e w7 ⟨rfl, hb7⟩
    have hown7 := own_below hown5s hb7 (Nat.le_refl _)
    have hbw7 := hbw6.trans (hb7.mono hbw6.size)
    go_wp2_with fail
    refine (heldS_c A2 xs.length c2 1 w1.heap.size w7 (by omega) (by omega) (by omega) hown7).mono ?_
    rintro e w8 ⟨rfl, hb8⟩
    have hbw8 := hbw7.trans (hb8.mono hbw7.size)
    go_wp2_with fail
    go_ret
    exact ⟨rfl, hbw8⟩
  · go_enter Try.func6, Try.ntmps6
    go_wp2_with fail
    go_ret
    exact ⟨rfl, Below.refl _ _⟩
end Go.Proofs.Ytbnmbnkgpggnmaa
