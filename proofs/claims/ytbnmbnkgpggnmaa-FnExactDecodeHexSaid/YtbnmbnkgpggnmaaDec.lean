import Derived.Test.YtbnmbnkgpggnmaaRows
import Derived.Test.YtbnmbnkgpggnmaaHex
import Derived.Test.YtbnmbnkgpggnmaaShelf
import Derived.Laws.BitsAllLaws
namespace Go.Proofs.Ytbnmbnkgpggnmaa
open Go.ChangeShapes Go.WideShapes Go.ChangeAt Go.RowKit
set_option linter.unusedVariables false

def valI (c : Int) : Int := if 48 ≤ c ∧ c ≤ 57 then c - 48 else if 97 ≤ c ∧ c ≤ 102 then c - 87 else -1
theorem valI_lt (c : Int) : valI c < 16 := by unfold valI; split <;> (try split) <;> omega
theorem valI_ge (c : Int) : -1 ≤ valI c := by unfold valI; split <;> (try split) <;> omega

theorem value (c : Int) (w : World) (h0 : 0 ≤ c) (h1 : c < 256) :
    Calls Try.prog 26 #[.int .u8 c] w fun e w' => e = .returned (.int .i64 (valI c)) ∧ w = w' := by
  rcases (show c < 48 ∨ (48 ≤ c ∧ c ≤ 57) ∨ (57 < c ∧ c < 97) ∨ (97 ≤ c ∧ c ≤ 102) ∨ 102 < c from by omega) with h | ⟨h, h'⟩ | ⟨h, h'⟩ | ⟨h, h'⟩ | h
  · have hv : valI c = -1 := by unfold valI; rw [if_neg (by omega), if_neg (by omega)]
    have H := Lib.hid hv
    clear hv
    go_enter Try.func26, Try.ntmps26
    go_wp2
    go_ret
    exact ⟨ret_int (by rw [H.out]; try omega), rfl⟩
  · have hv : valI c = c - 48 := by unfold valI; rw [if_pos (by omega)]
    have H := Lib.hid hv
    clear hv
    go_enter Try.func26, Try.ntmps26
    go_wp2
    go_ret
    exact ⟨ret_int (by rw [H.out]; try omega), rfl⟩
  · have hv : valI c = -1 := by unfold valI; rw [if_neg (by omega), if_neg (by omega)]
    have H := Lib.hid hv
    clear hv
    go_enter Try.func26, Try.ntmps26
    go_wp2
    go_ret
    exact ⟨ret_int (by rw [H.out]; try omega), rfl⟩
  · have hv : valI c = c - 87 := by unfold valI; rw [if_neg (by omega), if_pos (by omega)]
    have H := Lib.hid hv
    clear hv
    go_enter Try.func26, Try.ntmps26
    go_wp2
    go_ret
    exact ⟨ret_int (by rw [H.out]; try omega), rfl⟩
  · have hv : valI c = -1 := by unfold valI; rw [if_neg (by omega), if_neg (by omega)]
    have H := Lib.hid hv
    clear hv
    go_enter Try.func26, Try.ntmps26
    go_wp2
    go_ret
    exact ⟨ret_int (by rw [H.out]; try omega), rfl⟩

theorem idx_val : ∀ c : Fin 256, Lib.indexByte [48, 49, 50, 51, 52, 53, 54, 55, 56, 57, 97, 98, 99, 100, 101, 102] (UInt8.ofNat c.val) = valI (c.val : Int) := by decide +kernel
theorem index_hex (c : UInt8) (w : World) :
    Calls Try.prog 27 #[.string ⟨#[48, 49, 50, 51, 52, 53, 54, 55, 56, 57, 97, 98, 99, 100, 101, 102]⟩, .int .u8 (c.toNat : Int)] w fun e w' => e = .returned (.int .i64 (valI (c.toNat : Int))) ∧ w = w' := by
  refine (Try.strings_IndexByte _ _ _).mono fun e w' h => ⟨?_, h.2.symm⟩
  rw [h.1]
  have := idx_val ⟨c.toNat, UInt8.toNat_lt c⟩
  simp only at this
  exact ret_int (by rw [← this]; simp)
end Go.Proofs.Ytbnmbnkgpggnmaa
