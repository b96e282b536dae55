/- The laws' helpers on slices of ints: their contracts. -/
import Derived.Test.YtmkfnhgaiheckaaIntE
import Derived.Test.YtmkfnhgaiheckaaChecked
import Derived.Deep.QuietTactic
import Derived.BigQuiet
import Derived.Deep.RegionHeld3
namespace Go.Proofs.Ytmkfnhgaiheckaa
open Go.ChangeShapes Go.WideShapes Go.ChangeAt Go.RowKit
set_option linter.unusedVariables false

/-- the slice after the marks k, k + 1, .. -/
def marksI (k n : Nat) : List Int := (List.range n).map fun i => ((k + i : Nat) : Int)
theorem marksI_len (k n : Nat) : (marksI k n).length = n := by simp [marksI]
theorem marksI_at (k n i : Nat) (h : i < n) : (marksI k n).getD i 0 = ((k + i : Nat) : Int) := by simp [marksI, h]
/-- what marking leaves -/
def MarkedI (base k n c : Nat) (A : Option Addr) (w : World) (e : Ending) (w' : World) : Prop :=
  e = .returned (.int .i64 ((k + n : Nat) : Int)) ∧ w'.ownsRow base 3 1 (.slice A n c) n (iv (marksI k n)) ∧ Below base w w'

set_option maxHeartbeats 1000000 in
theorem markI_c (A : Option Addr) (n c k base : Nat) (xs : List Int) (w : World) (hn : (n : Int) ≤ 10000000) (hk : (k : Int) ≤ 10000000) (hB : base ≤ w.heap.size) (hown : w.ownsRow base 3 1 (.slice A n c) n (iv xs)) :
    Calls Try.prog 64 #[.slice A n c, .int .i64 k] w (MarkedI base k n c A w) := by
  have hxl : xs.length = n := own_len_i hown
  have HXL := Lib.hid hxl
  clear hxl
  go_enter Try.func64, Try.ntmps64
  go_wp2
  go_loopw [1, 5] (fun m i wr => ∃ (j : Nat) (ys : List Int), j ≤ n ∧ i = .int .i64 j ∧ m = .int .i64 ((k + j : Nat) : Int) ∧ ys.length = n ∧ wr.ownsRow base 3 1 (.slice A n c) n (iv ys) ∧ (∀ t, t < j → ys.getD t 0 = ((k + t : Nat) : Int)) ∧ Below base w wr) (fun _ i _ => n - (intOf i).toNat)
  case atStart => exact ⟨0, xs, Nat.zero_le _, rfl, rfl, HXL.out, hown, fun t ht => absurd ht (Nat.not_lt_zero _), Below.refl _ _⟩
  case round =>
    clear hown
    obtain ⟨j, ys, hj, rfl, rfl, hyl, hown, hys, hb⟩ := hrel
    have HYL := Lib.hid hyl
    have HYS := Lib.hid hys
    clear hyl hys
    by_cases hlt : j < n
    · obtain ⟨g, cap, hv, hg, hglt⟩ := hown.form (by omega)
      injection hv with h1 h2 h3
      subst h1 h3
      have hc : wr.cell? ⟨g, j, none⟩ = some (.int .i64 (ys.getD j 0)) := by rw [hown.cellAt j (by omega)]; exact iv_at ys j (by have := HYL.out; omega)
      have hf := hown.frozenAt j
      have hst := (hown.stored j (.int .i64 ((k + j : Nat) : Int))).1
      rw [← iv_set] at hst
      have hbb : Below base w (wr.setCell ⟨g, j, none⟩ (.int .i64 ((k + j : Nat) : Int))) := hb.setCell hg _
      generalize ys.getD j 0 = y0 at hc
      clear hown
      go_wp2_with fail
      have HC := Lib.hid hc
      clear hc hf
      go_roundw
      case rel => exact ⟨j + 1, ys.set j ((k + j : Nat) : Int), by omega, by go_num, by go_num, by have := HYL.out; simp; omega, hst, fun t ht => by
          by_cases e : t = j
          · subst e; have := HYL.out; simp [show t < ys.length from by omega]
          · have := HYS.out t (by omega); rw [← this]; simp [show ¬ j = t from fun h => e h.symm], hbb⟩
      case measure => simp [intOf]; omega
    · obtain rfl : j = n := by omega
      go_wp2
      go_ret
      refine ⟨ret_int rfl, ?_, hb⟩
      have e : ys = marksI k j := by
        apply List.ext_getElem
        · rw [HYL.out, marksI_len]
        · intro i h1 h2
          have := HYS.out i (by have := HYL.out; omega)
          rw [List.getD_eq_getElem?_getD, List.getElem?_eq_getElem h1] at this
          have h3 := marksI_at k j i (by have := HYL.out; omega)
          rw [List.getD_eq_getElem?_getD, List.getElem?_eq_getElem h2] at h3
          exact this.trans h3.symm
      rw [← e]; exact hown

set_option maxHeartbeats 1000000 in
theorem heldI_c (A : Option Addr) (n c k : Nat) (w : World) (hn : (n : Int) ≤ 10000000) (hk : (k : Int) ≤ 10000000) (hx : ReadsI w A n (marksI k n)) :
    Calls Try.prog 65 #[.slice A n c, .int .i64 k] w (Val (.int .i64 ((k + n : Nat) : Int)) w) := by
  go_enter Try.func65, Try.ntmps65
  go_wp2
  go_loopw [1, 5] (fun m i wr => ∃ (j q : Nat), j ≤ n ∧ i = .int .i64 j ∧ m = .int .i64 ((k + j : Nat) : Int) ∧ wr = w.drewN q) (fun _ i _ => n - (intOf i).toNat)
  case atStart => exact ⟨0, 0, Nat.zero_le _, rfl, rfl, rfl⟩
  case round =>
    obtain ⟨j, q, hj, rfl, rfl, rfl⟩ := hrel
    by_cases hlt : j < n
    · obtain ⟨a, rfl, ha⟩ := hx.2 j hlt
      rw [marksI_at k n j hlt] at ha
      go_wp2
      go_roundw
      case rel => exact ⟨j + 1, _, by omega, by go_num, by go_num, rfl⟩
      case measure => simp [intOf]; omega
    · obtain rfl : j = n := by omega
      go_wp2
      go_ret
      exact ⟨ret_int rfl, below_drewN (Below.refl _ _) _⟩

end Go.Proofs.Ytmkfnhgaiheckaa
