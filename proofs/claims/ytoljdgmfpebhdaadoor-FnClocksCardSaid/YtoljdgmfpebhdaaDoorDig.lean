/- Digits put in front of digits (no dump). -/
import Derived.Test.YtoljdgmfpebhdaaDoorBase
import Derived.Laws.Concat
import Derived.Lib.ItoaLen
import Derived.WalkSpells
namespace Go.Proofs.YtoljdgmfpebhdaaDoor
open Go.ChangeShapes Go.WideShapes Go.ChangeAt Go.RowKit
set_option linter.unusedVariables false

def dpre (m : Nat) : List UInt8 := if m = 0 then [] else Lib.decDigits m
theorem dpre_step (m : Nat) (h : m ≠ 0) (t : List UInt8) : dpre (m / 10) ++ (UInt8.ofNat (48 + m % 10) :: t) = dpre m ++ t := by
  unfold dpre
  rw [if_neg h]
  by_cases h1 : m < 10
  · rw [if_pos (by omega), Lib.decDigits_one h1, show m % 10 = m from by omega]; rfl
  · rw [if_neg (by omega)]
    conv => rhs; rw [Lib.decDigits, dif_neg h1]
    simp
theorem conv_one {P : Program} (b : UInt8) (src dst e : TypeId) (hs : P.underlying src = some (.slice e)) (he : P.underlying e = some (.int .u8)) (hd : P.underlying dst = some .string) (W : World) :
    (convert src dst (.slice (some ⟨W.heap.size, 0, none⟩) 1 1)).run P (W.alloc (.cells #[.int .u8 (b.toNat : Int)] e)) = .ok (.string ⟨#[b]⟩) (W.alloc (.cells #[.int .u8 (b.toNat : Int)] e)) :=
  run_convert_bytes_back _ src dst e ⟨W.heap.size, 0, none⟩ 1 [b] hs he hd fun j hj => by
    have : j = 0 := by simpa using hj
    subst this
    exact (Blk.new W e #[.int .u8 (b.toNat : Int)]).cell 0

theorem add_cons {P : Program} (b : UInt8) (t : List UInt8) (ht : t.length ≤ 100) (W : World) : (Op.stringOp .add ⟨#[b]⟩ ⟨t.toArray⟩).run P W = .ok (.string ⟨(b :: t).toArray⟩) W := by
  rw [run_string_add_sum W _ _ (by show 1 + t.toArray.size ≤ _; simp; omega)]
  congr 2

theorem decDigits_le (u : Nat) (h : u ≤ 9223372036854775808) : (Lib.decDigits u).length ≤ 20 := by
  rw [Lib.decDigits_length]; exact Lib.nDigits_le20 u (by omega)

end Go.Proofs.YtoljdgmfpebhdaaDoor
