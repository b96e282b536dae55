/- Chapter 34: the laws of ReadTime and ReadLength. -/
import Derived.Test.YtoljdgmfpebhdaaDoorR34T
namespace Go.Proofs.YtoljdgmfpebhdaaDoor
open Go.ChangeShapes Go.WideShapes Go.ChangeAt Go.RowKit
set_option linter.unusedVariables false
set_option linter.unusedSimpArgs false
set_option maxHeartbeats 2000000

theorem rdT_form (s : ByteArray) : ∃ (n : Int) (b : Bool), rdT s = .tuple #[.int .i64 n, .bool b] := by
  rw [rdT_prog]
  split
  · exact ⟨_, _, rfl⟩
  · exact ⟨_, _, rfl⟩
theorem walk_FnExactReadTime (s : ByteArray) (hs : s.size ≤ maxLen) (w : World) (hL : laidMetH Tryd.prog Rows.fnExactReadTimeRow.laid w) :
    Calls Tryd.prog 3 #[.string s] w fun e w' => e = .returned (.bool true) ∧ Below w.heap.size w w' := by
  have HT := Lib.hid (show Tab w from table hL (by kernel_rfl))
  obtain ⟨n, b, hv⟩ := rdT_form s
  have HS := Lib.hid (fun W => sReadTime s W hs)
  have HI := Lib.hid (fun W h => iReadTime s W h)
  rw [hv] at HS HI
  clear hL hv
  unfold maxLen at hs
  by_cases hbig : (1048576 : Int) < (s.size : Int)
  · go_enter Tryd.func3, Tryd.ntmps3
    go_wp2
    go_ret
    exact ⟨rfl, Below.refl _ _⟩
  go_enter Tryd.func3, Tryd.ntmps3
  go_wp2_with fail
  refine (HS.out _).mono ?_
  rintro _ w1 ⟨rfl, hb1⟩
  have i1 : In w.heap.size w w1 := In.step (In.refl _) hb1
  go_wp2_with fail
  refine (HI.out _ (HT.out.in_ i1)).mono ?_
  rintro _ w2 ⟨rfl, hb2⟩
  have i2 : In w.heap.size w w2 := In.step i1 hb2
  clear hb1 i1 hb2
  go_wp2
  go_ret
  exact (show Val _ _ _ _ from Val.mk' rfl (by (repeat (first | exact In.refl _ | assumption | apply In.alloc | apply In.drewN | apply In.drew | (refine In.step ?_ (by assumption))))))
theorem rdL_form (s : ByteArray) : ∃ (n : Int) (b : Bool), rdL s = .tuple #[.int .i64 n, .bool b] := by
  rw [rdL_prog]
  split
  · exact ⟨_, _, rfl⟩
  · exact ⟨_, _, rfl⟩
theorem walk_FnExactReadLength (s : ByteArray) (hs : s.size ≤ maxLen) (w : World) (hL : laidMetH Tryd.prog Rows.fnExactReadLengthRow.laid w) :
    Calls Tryd.prog 4 #[.string s] w fun e w' => e = .returned (.bool true) ∧ Below w.heap.size w w' := by
  have HT := Lib.hid (show Tab w from table hL (by kernel_rfl))
  obtain ⟨n, b, hv⟩ := rdL_form s
  have HS := Lib.hid (fun W => sReadLength s W hs)
  have HI := Lib.hid (fun W h => iReadLength s W h)
  rw [hv] at HS HI
  clear hL hv
  unfold maxLen at hs
  by_cases hbig : (1048576 : Int) < (s.size : Int)
  · go_enter Tryd.func4, Tryd.ntmps4
    go_wp2
    go_ret
    exact ⟨rfl, Below.refl _ _⟩
  go_enter Tryd.func4, Tryd.ntmps4
  go_wp2_with fail
  refine (HS.out _).mono ?_
  rintro _ w1 ⟨rfl, hb1⟩
  have i1 : In w.heap.size w w1 := In.step (In.refl _) hb1
  go_wp2_with fail
  refine (HI.out _ (HT.out.in_ i1)).mono ?_
  rintro _ w2 ⟨rfl, hb2⟩
  have i2 : In w.heap.size w w2 := In.step i1 hb2
  clear hb1 i1 hb2
  go_wp2
  go_ret
  exact (show Val _ _ _ _ from Val.mk' rfl (by (repeat (first | exact In.refl _ | assumption | apply In.alloc | apply In.drewN | apply In.drew | (refine In.step ?_ (by assumption))))))
end Go.Proofs.YtoljdgmfpebhdaaDoor
