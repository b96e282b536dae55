/- A slice of ints of the call's own, in one block: its marking. -/
import Derived.Test.YtmkfnhgaiheckaaOwnI
namespace Go.Proofs.Ytmkfnhgaiheckaa
open Go.ChangeShapes Go.WideShapes Go.ChangeAt Go.RowKit
set_option linter.unusedVariables false
set_option linter.unusedSimpArgs false
set_option maxHeartbeats 2000000 in
theorem markIntS_c (g n k : Nat) (xs : List Int) (w : World) (hn : n ≤ 1048576) (hk : k ≤ 10000000) (h : OwnInt w g n xs) :
    Calls Try.prog 64 #[.slice (some ⟨g, 0, none⟩) n n, .int .i64 (k : Int)] w (Only g (.int .i64 ((k + 1 * n : Nat) : Int)) w) := by
  obtain ⟨cur0, hb0, hs0⟩ := h.blk
  have HS0 := Lib.hid hs0
  clear hs0 h
  go_enter Try.func64, Try.ntmps64
  go_wp2
  go_loopw [1, 5] (fun q i wr => ∃ (j : Nat) (cur : Array Value), j ≤ n ∧ i = .int .i64 j ∧ q = .int .i64 ((k + 1 * j : Nat) : Int) ∧ Blk wr g 3 cur ∧ cur.size = n ∧ w.grownBy wr (some g)) (fun _ i _ => n - (intOf i).toNat)
  case atStart => exact ⟨0, cur0, Nat.zero_le _, rfl, rfl, hb0, HS0.out, only_refl _ _⟩
  case round =>
    clear hb0 HS0
    obtain ⟨j, cur, hj, rfl, rfl, hK, hs, ho⟩ := hrel
    have HS := Lib.hid hs
    clear hs
    have hkk : (k : Int) ≤ 10000000 := by omega
    by_cases hlt : j < n
    · have hlt2 : j < cur.size := by have := HS.out; omega
      obtain ⟨y0, hy0⟩ : ∃ y, wr.cell? ⟨g, j, none⟩ = some y := ⟨cur[j]'hlt2, by rw [hK.cell]; simp⟩
      have z0 := hK.frozen j
      have hlt3 := hK.lt
      have HK := Lib.hid hK
      clear hK hlt2
      go_wp2
      go_roundw
      case rel =>
        refine ⟨j + 1, _, by omega, by go_num, ?_, HK.out.set_ _ _, by simp; exact HS.out, only_setCell ho (p := ⟨g, j, none⟩) (.inl rfl) _⟩
        exact v_int (by omega)
      case measure => simp [intOf]; omega
    · obtain rfl : j = n := by omega
      go_wp2
      go_ret
      exact ⟨ret_int rfl, ho⟩
end Go.Proofs.Ytmkfnhgaiheckaa
