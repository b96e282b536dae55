/- The marking of a slice of Dough of the call's own. -/
import Derived.Test.YtmkfnhgaiheckaaSDough
import Derived.Test.YtmkfnhgaiheckaaOwnI
namespace Go.Proofs.Ytmkfnhgaiheckaa
open Go.ChangeShapes Go.WideShapes Go.ChangeAt Go.RowKit
set_option linter.unusedVariables false
set_option linter.unusedSimpArgs false
theorem OwnDough.lt {w : World} {g n : Nat} {xs : List DoughR} (h : OwnDough w g n xs) : g < w.heap.size := by obtain ⟨cur, hk, r⟩ := h; exact hk.lt
theorem OwnDough.step {w w' : World} {g n : Nat} {xs : List DoughR} (h : OwnDough w g n xs) (hb : Below w.heap.size w w') : OwnDough w' g n xs := h.below hb h.lt
theorem OwnDough.alloc {w : World} {g n : Nat} {xs : List DoughR} (h : OwnDough w g n xs) (o : Obj) : OwnDough (w.alloc o) g n xs := h.step ((Below.refl _ w).alloc (Nat.le_refl _) o)
theorem OwnDough.drew {w : World} {g n : Nat} {xs : List DoughR} (h : OwnDough w g n xs) : OwnDough w.drew g n xs := h.step (Below.refl _ w).drew
theorem OwnDough.only {w w' : World} {g g' n : Nat} {xs : List DoughR} (h : OwnDough w g n xs) (hb : w.grownBy w' (some g')) (hne : g ≠ g') : OwnDough w' g n xs := by
  obtain ⟨cur, hk, r⟩ := h
  exact ⟨cur, hk.grown hb (fun e => by injection e; omega), r⟩
set_option maxHeartbeats 2000000 in
theorem markDoughS_c (g n k : Nat) (xs : List DoughR) (w : World) (hn : n ≤ 1048576) (hk : k ≤ 10000000) (h : OwnDough w g n xs) :
    Calls Try.prog 76 #[.slice (some ⟨g, 0, none⟩) n n, .int .i64 (k : Int)] w (Only g (.int .i64 ((k + 3 * n : Nat) : Int)) w) := by
  obtain ⟨cur0, hb0, hs0, _, _⟩ := h
  have HS0 := Lib.hid hs0
  clear hs0
  go_enter Try.func76, Try.ntmps76
  go_wp2
  go_loopw [1, 5] (fun q i wr => ∃ (j : Nat) (cur : Array Value), j ≤ n ∧ i = .int .i64 j ∧ q = .int .i64 ((k + 3 * j : Nat) : Int) ∧ Blk wr g 164 cur ∧ cur.size = n * 3 ∧ w.grownBy wr (some g)) (fun _ i _ => n - (intOf i).toNat)
  case atStart => exact ⟨0, cur0, Nat.zero_le _, rfl, rfl, hb0, HS0.out, only_refl _ _⟩
  case round =>
    clear hb0 HS0
    obtain ⟨j, cur, hj, rfl, rfl, hK, hs, ho⟩ := hrel
    have HS := Lib.hid hs
    clear hs
    have hkk : (k : Int) ≤ 10000000 := by omega
    by_cases hlt : j < n
    · have hlt2 : ∀ t, t < 3 → j * 3 + t < cur.size := by have := HS.out; omega
      obtain ⟨y0, hy0⟩ : ∃ y, wr.cell? ⟨g, j * 3, none⟩ = some y := ⟨cur[j * 3 + 0]'(hlt2 0 (by omega)), by rw [hK.cell]; simp⟩
      have z0 := hK.frozen (j * 3)
      obtain ⟨y1, hy1⟩ : ∃ y, wr.cell? ⟨g, j * 3 + 1, none⟩ = some y := ⟨cur[j * 3 + 1]'(hlt2 1 (by omega)), by rw [hK.cell]; simp⟩
      have z1 := hK.frozen (j * 3 + 1)
      obtain ⟨y2, hy2⟩ : ∃ y, wr.cell? ⟨g, j * 3 + 2, none⟩ = some y := ⟨cur[j * 3 + 2]'(hlt2 2 (by omega)), by rw [hK.cell]; simp⟩
      have z2 := hK.frozen (j * 3 + 2)
      have hlt3 := hK.lt
      have HK := Lib.hid hK
      clear hK hlt2
      go_wp2
      go_roundw
      case rel =>
        refine ⟨j + 1, _, by omega, by go_num, ?_, ((HK.out.set_ _ _).set_ _ _).set_ _ _, by simp; exact HS.out, only_setCell (only_setCell (only_setCell (ho) (p := ⟨g, j * 3, none⟩) (.inl rfl) _) (p := ⟨g, j * 3 + 1, none⟩) (.inl rfl) _) (p := ⟨g, j * 3 + 2, none⟩) (.inl rfl) _⟩
        exact v_int (by omega)
      case measure => simp [intOf]; omega
    · obtain rfl : j = n := by omega
      go_wp2
      go_ret
      exact ⟨ret_int rfl, ho⟩
end Go.Proofs.Ytmkfnhgaiheckaa
