import Derived.Test.YtbnmbnkgpggnmaaDecI
namespace Go.Proofs.Ytbnmbnkgpggnmaa
open Go.ChangeShapes Go.WideShapes Go.ChangeAt Go.RowKit
set_option linter.unusedVariables false

theorem decRes_form (s : ByteArray) : ∃ (t : ByteArray) (b : Bool), decRes s = .tuple #[.string t, .bool b] := by
  unfold decRes
  split
  · exact ⟨_, _, rfl⟩
  · exact ⟨_, _, rfl⟩

theorem walk_FnExactDecodeHex (s : ByteArray) (hs : s.size ≤ maxLen) (w : World) :
    Calls Try.prog 5 #[.string s] w fun e w' => e = .returned (.bool true) ∧ Below w.heap.size w w' := by
  have hs' := hs
  unfold maxLen at hs'
  by_cases h1 : s.size ≤ 40000 ∧ s.size % 2 = 0
  · obtain ⟨h1, h2⟩ := h1
    obtain ⟨t, b, hr⟩ := decRes_form s
    have c1 := fun W => specDec_ok s W h1 h2
    have c2 := fun W => implDec_ok s W h1 h2
    rw [hr] at c1 c2
    have C1 := Lib.hid c1
    have C2 := Lib.hid c2
    clear c1 c2 hr h2
    go_enter Try.func5, Try.ntmps5
    go_wp2_with (first
      | (go_at_call 13; refine (C1.out _).mono ?_; rintro e w1 ⟨rfl, hb1⟩)
      | (go_at_call 14; refine (C2.out _).mono ?_; rintro e w2 ⟨rfl, hb2⟩))
    go_ret
    exact ⟨rfl, hb1.trans (hb2.mono hb1.size)⟩
  · have h3 : 40000 < s.size ∨ s.size % 2 = 1 := by omega
    clear h1
    have H3 := Lib.hid h3
    clear h3
    by_cases h2 : s.size ≤ 1048576
    · go_enter Try.func5, Try.ntmps5
      go_wp2_with (first
        | (go_at_call 13; refine (specDec_no _ _ hs H3.out).mono ?_; rintro e w1 ⟨rfl, rfl⟩)
        | (go_at_call 14; refine (implDec_no _ _ hs H3.out).mono ?_; rintro e w2 ⟨rfl, rfl⟩))
      go_ret
      exact ⟨rfl, Below.refl _ _⟩
    · go_enter Try.func5, Try.ntmps5
      go_wp2
      go_ret
      exact ⟨rfl, Below.refl _ _⟩
end Go.Proofs.Ytbnmbnkgpggnmaa
