import Derived.Test.YtbnmbnkgpggnmaaFnClampedW
namespace Go.Proofs.Ytbnmbnkgpggnmaa
open Go.ChangeShapes Go.WideShapes Go.ChangeAt Go.RowKit
set_option linter.unusedVariables false

theorem big_c (a : Option Addr) (len cap : Nat) (w : World) (hl : len ≤ maxLen) (b : Bool) (hb : decide ((1048576 : Int) < (len : Int)) = b) :
    Calls Try.prog 8 #[.slice a len cap] w fun e w' => e = .returned (.bool b) ∧ w = w' := by
  subst hb
  unfold maxLen at hl
  go_enter Try.func8, Try.ntmps8
  go_wp2
  go_ret
  exact ⟨rfl, rfl⟩

theorem Bytes.of_row {w : World} {a : Option Addr} {len cap : Nat} {zs : List Int} (h : IsRow .u8 w a len cap zs) : Bytes w w.heap.size a len := by
  rcases h with ⟨rfl, rfl, _, _⟩ | ⟨x, rfl, hl, hm, hz, hc, hw⟩
  · exact ⟨Nat.zero_le _, fun k hk => absurd hk (Nat.not_lt_zero _)⟩
  · refine ⟨by omega, fun k hk => ⟨x, zs.getD k 0, rfl, ?_, hc k (by omega), ?_⟩⟩
    · have := World.block_lt_of_cell? w _ (hc k (by omega)); rwa [block_of_add] at this
    · have hmem : zs.getD k 0 ∈ zs := by rw [List.getD_eq_getElem?_getD, List.getElem?_eq_getElem (by omega)]; exact List.getElem_mem _
      have := bounds_u8 (hw _ hmem)
      omega

set_option maxHeartbeats 1000000 in
theorem walk_FnClamped (a0 : Option Addr) (len0 cap0 : Nat) (z0 : List Int) (w : World) (w0 : IsRow .u8 w a0 len0 cap0 z0) :
    Calls Try.prog 3 #[.slice a0 len0 cap0] w fun e w' => e = .returned (.bool true) ∧ Below w.heap.size w w' := by
  have hb := Bytes.of_row w0
  have hm := hb.1
  by_cases hbig : (1048576 : Int) < (len0 : Int)
  · go_enter Try.func3, Try.ntmps3
    go_wp2_with fail
    refine (big_c _ _ _ _ hm true (by simpa using hbig)).mono ?_
    rintro e w' ⟨rfl, rfl⟩
    go_wp2_with fail
    go_ret
    exact ⟨rfl, Below.refl _ _⟩
  · go_enter Try.func3, Try.ntmps3
    go_wp2_with fail
    refine (big_c _ _ _ _ hm false (by simpa using hbig)).mono ?_
    rintro e w' ⟨rfl, rfl⟩
    go_wp2_with fail
    refine (drawClamp _ _ _ _ hb).mono ?_
    rintro e w1 ⟨n, a, b, hn, ha, hb', rfl, hbel⟩
    clear hb hm hbig w0
    by_cases h1 : b < a
    · by_cases h2 : n < a <;> by_cases h3 : b < n <;> by_cases h4 : n < b <;> by_cases h5 : a < n
      all_goals first
        | (exfalso; omega)
        | (go_wp2
           go_ret
           exact ⟨ret_bool (by first | rfl | (simp; omega)), hbel⟩)
    · by_cases h2 : n < a <;> by_cases h3 : b < n <;> by_cases h4 : n < b <;> by_cases h5 : a < n <;> by_cases h6 : a < b
      all_goals first
        | (exfalso; omega)
        | (go_wp2
           go_ret
           exact ⟨ret_bool (by first | rfl | (simp; omega)), hbel⟩)
end Go.Proofs.Ytbnmbnkgpggnmaa
