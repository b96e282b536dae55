import Derived.Test.YtbnmbnkgpggnmaaDoorRows
import Derived.Test.YtbnmbnkgpggnmaaDoorHexDef
import Derived.Test.YtbnmbnkgpggnmaaDoorShelfIndex
import Derived.Laws.BitsAllLaws
namespace Go.Proofs.YtbnmbnkgpggnmaaDoor
open Go.ChangeShapes Go.WideShapes Go.ChangeAt Go.RowKit
set_option linter.unusedVariables false

def valI (c : Int) : Int := if 48 ≤ c ∧ c ≤ 57 then c - 48 else if 97 ≤ c ∧ c ≤ 102 then c - 87 else -1
theorem valI_lt (c : Int) : valI c < 16 := by unfold valI; split <;> (try split) <;> omega
theorem valI_ge (c : Int) : -1 ≤ valI c := by unfold valI; split <;> (try split) <;> omega

theorem idx_val : ∀ c : Fin 256, Lib.indexByte [48, 49, 50, 51, 52, 53, 54, 55, 56, 57, 97, 98, 99, 100, 101, 102] (UInt8.ofNat c.val) = valI (c.val : Int) := by decide +kernel
theorem index_hex (c : UInt8) (w : World) :
    Calls Tryd.prog 27 #[.string ⟨#[48, 49, 50, 51, 52, 53, 54, 55, 56, 57, 97, 98, 99, 100, 101, 102]⟩, .int .u8 (c.toNat : Int)] w fun e w' => e = .returned (.int .i64 (valI (c.toNat : Int))) ∧ w = w' := by
  refine (Tryd.strings_IndexByte _ _ _).mono fun e w' h => ⟨?_, h.2.symm⟩
  rw [h.1]
  have := idx_val ⟨c.toNat, UInt8.toNat_lt c⟩
  simp only at this
  exact ret_int (by rw [← this]; simp)
theorem odd_t (n : Nat) (h : n % 2 = 1) : ((n : Int) % 2 != 0) = true := by simp; omega
theorem odd_f (n : Nat) (h : n % 2 = 0) : ((n : Int) % 2 != 0) = false := by simp; omega
def valAt (s : ByteArray) (t : Nat) : Int := valI ((s.data.toList.getD t 0).toNat : Int)
theorem valAt_get (s : ByteArray) (t : Nat) (h : t < s.size) : valAt s t = valI (s[t].toNat : Int) := by
  unfold valAt
  rw [List.getD_eq_getElem?_getD, List.getElem?_eq_getElem (by simpa using h)]; rfl
def byteAt (s : ByteArray) (j : Nat) : UInt8 := UInt8.ofNat (16 * valAt s (2 * j) + valAt s (2 * j + 1)).toNat
def decP (s : ByteArray) (k : Nat) : List UInt8 := (List.range (k / 2)).map (byteAt s)
theorem decP_succ (s : ByteArray) (k : Nat) (h : k % 2 = 0) : decP s (k + 2) = decP s k ++ [UInt8.ofNat (16 * valAt s k + valAt s (k + 1)).toNat] := by
  unfold decP
  rw [show (k + 2) / 2 = k / 2 + 1 from by omega, List.range_succ, List.map_append]
  simp [byteAt, show 2 * (k / 2) = k from by omega]
noncomputable def decRes (s : ByteArray) : Value :=
  haveI := Classical.propDecidable (∀ t, t < s.size → 0 ≤ valAt s t)
  if (∀ t, t < s.size → 0 ≤ valAt s t) then .tuple #[.string ⟨(decP s s.size).toArray⟩, .bool true] else .tuple #[.string ⟨#[]⟩, .bool false]
theorem decRes_bad (s : ByteArray) (k : Nat) (h : k < s.size) (hv : valAt s k < 0) : decRes s = .tuple #[.string ⟨#[]⟩, .bool false] := by
  unfold decRes; rw [if_neg (fun hh => by have := hh k h; omega)]
theorem decRes_good (s : ByteArray) (h2 : s.size % 2 = 0) (h : ∀ t, t < s.size → 0 ≤ valAt s t) : decRes s = .tuple #[.string ⟨(decP s s.size).toArray⟩, .bool true] := by
  unfold decRes; rw [if_pos h]
theorem oneB (b : UInt8) : ∀ u ∈ bv [b], u.oneCell' = true := by simp [bv, Value.oneCell']
theorem wrap_byte (x : Int) (h0 : 0 ≤ x) (h1 : x < 256) : IntKind.u8.wrap x = ((UInt8.ofNat x.toNat).toNat : Int) := by
  rw [IntWalk.u8_in _ (by omega)]
  simp [UInt8.toNat_ofNat']; omega
end Go.Proofs.YtbnmbnkgpggnmaaDoor
