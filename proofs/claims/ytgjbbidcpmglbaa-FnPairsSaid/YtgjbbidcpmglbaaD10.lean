/- Chapter 10: CanShare. -/
import Derived.Test.YtgjbbidcpmglbaaC10
namespace Go.Proofs.Ytgjbbidcpmglbaa
open Go.ChangeShapes Go.WideShapes Go.ChangeAt Go.RowKit
set_option linter.unusedVariables false
set_option linter.unusedSimpArgs false

theorem reads2 (w : World) (a b c d e f : Int) (g : Nat) (hg : w.heap.size = g) : ReadsBread (w.alloc (.cells #[.int .i64 a, .int .i64 b, .int .i64 c, .int .i64 d, .int .i64 e, .int .i64 f] 51)) (some ⟨g, 0, none⟩) 2 [⟨a, b, c⟩, ⟨d, e, f⟩] := by
  subst hg
  have k := Blk.new w 51 #[.int .i64 a, .int .i64 b, .int .i64 c, .int .i64 d, .int .i64 e, .int .i64 f]
  refine ⟨rfl, fun i hi => ⟨_, rfl, ?_⟩⟩
  match i, hi with
  | 0, _ => exact ⟨k.cell 0, k.cell 1, k.cell 2⟩
  | 1, _ => exact ⟨k.cell 3, k.cell 4, k.cell 5⟩
def shareB (a b c d e f : Int) : Bool := commB 2 [⟨a, b, c⟩, ⟨d, e, f⟩]
theorem iCanShare (a b c d e f : Int) (w : World) : Calls Try.prog 30 #[.agg #[.int .i64 a, .int .i64 b, .int .i64 c], .agg #[.int .i64 d, .int .i64 e, .int .i64 f]] w (Val (.bool (shareB a b c d e f)) w) := by
  obtain ⟨r0, r1, hv⟩ : ∃ r0 r1, commonV 2 [⟨a, b, c⟩, ⟨d, e, f⟩] = .tuple #[.int .i64 r0, .int .i64 r1, .bool (shareB a b c d e f)] := by
    unfold commonV shareB
    split
    · rename_i h; rw [h]; exact ⟨_, _, rfl⟩
    · rename_i h; simp only [Bool.not_eq_true] at h; rw [h]; exact ⟨_, _, rfl⟩
  go_enter Try.func30, Try.ntmps30
  go_wp2_with fail
  refine (iCommonHeat _ 2 2 _ _ (by unfold maxLen; omega) (reads2 _ a b c d e f _ (by simp))).mono ?_
  rintro _ w1 ⟨rfl, hb1⟩
  rw [hv]
  go_wp2
  go_ret
  exact Val.mk' rfl (by (repeat (first | exact In.refl _ | assumption | apply In.alloc | apply In.drewN | apply In.drew | (refine In.step ?_ (by assumption)))))
end Go.Proofs.Ytgjbbidcpmglbaa
