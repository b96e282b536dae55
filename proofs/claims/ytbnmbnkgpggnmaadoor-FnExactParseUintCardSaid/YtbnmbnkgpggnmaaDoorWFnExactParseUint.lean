import Derived.Test.YtbnmbnkgpggnmaaDoorVars
namespace Go.Proofs.YtbnmbnkgpggnmaaDoor
open Go.ChangeShapes Go.WideShapes Go.ChangeAt Go.RowKit
set_option linter.unusedVariables false
theorem walk_FnExactParseUint (s : ByteArray) (hs : s.size ≤ maxLen) (w : World) (hL : laidMetH Tryd.prog Rows.fnExactParseUintRow.laid w) :
    Calls Tryd.prog 7 #[.string s] w fun e w' => e = .returned (.bool true) ∧ Below w.heap.size w w' := by
  obtain ⟨tp1, tp2, p1, p2, hv⟩ := vars_of hL (by kernel_rfl) (by kernel_rfl) (by kernel_rfl)
  have HV := Lib.hid hv
  clear hv hL
  have hs' := hs
  unfold maxLen at hs'
  by_cases h2 : s.size ≤ 1048576
  · obtain ⟨n, b, hr⟩ := uintRes_form s.data.toList
    have C1 : ∀ W, Calls Tryd.prog 20 #[.string s] W (ValB (uintRes s.data.toList) W) := fun W => by
      by_cases h : s.size ≤ 10
      · exact specPu s W h
      · exact specPu_long s W hs (by omega)
    have C2 := fun W (hW : Below w.heap.size w W) => implPu s (by omega) W (HV.out.below hW)
    rw [hr] at C1 C2
    have H1 := Lib.hid C1
    have H2 := Lib.hid C2
    clear C1 C2 hr
    go_enter Tryd.func7, Tryd.ntmps7
    go_wp2_with fail
    refine (H1.out _).mono ?_
    rintro e w1 ⟨rfl, hb1⟩
    go_wp2_with fail
    refine (H2.out _ hb1).mono ?_
    rintro e w2 ⟨rfl, hb2⟩
    go_wp2_with fail
    go_ret
    exact ⟨rfl, hb1.trans (hb2.mono hb1.size)⟩
  · go_enter Tryd.func7, Tryd.ntmps7
    go_wp2_with fail
    go_ret
    exact ⟨rfl, Below.refl _ _⟩
end Go.Proofs.YtbnmbnkgpggnmaaDoor
