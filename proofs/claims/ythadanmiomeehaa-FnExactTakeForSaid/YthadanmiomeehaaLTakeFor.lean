/- The law of TakeFor. -/
import Derived.Test.YthadanmiomeehaaF36
import Derived.Test.YthadanmiomeehaaInv
import Derived.Test.YthadanmiomeehaaSDough
namespace Go.Proofs.Ythadanmiomeehaa
open Go.ChangeShapes Go.WideShapes Go.ChangeAt Go.RowKit
set_option linter.unusedVariables false
set_option linter.unusedSimpArgs false
def updf (f : Nat → Value) (k : Nat) (v : Value) : Nat → Value := fun j => if j = k then v else f j
def JITakeFora (w0 : World) (a0 : Option Addr) (len0 : Nat) (cap0 : Nat) (z0 : List Int) (a1_0 : Int) (a1_1 : Int) (a1_2 : Int) (a2 : Int) (zs : List Int) (fv : Bool) (b_p1 : Nat) (b_p0 : Nat) (a : Act) (w : World) : Prop := (∃ f : Nat → Value, a = ⟨#[Value.agg #[Value.slice a0 len0 cap0], Value.agg #[Value.int IntKind.i64 a1_0, Value.int IntKind.i64 a1_1, Value.int IntKind.i64 a1_2], Value.int IntKind.i64 a2, Value.pointer (some { block := b_p0, off := 0 }), Value.pointer (some { block := b_p1, off := 0 }), undef, Value.bool false, Value.int IntKind.i64 (1048576 - ((len0 : Nat) : Int)), f 8, f 9, undef, undef, undef, undef, undef, undef, undef, undef, Value.agg #[Value.slice a0 len0 cap0], Value.int IntKind.i64 1048576, Value.int IntKind.i64 (1048576 - ((len0 : Nat) : Int)), Value.int IntKind.i64 (1048576 - ((len0 : Nat) : Int)), Value.bool (decide (1048576 - ((len0 : Nat) : Int) < 0)), f 23, f 24, f 25, f 26, f 27, f 28, f 29, f 30, f 31, undef, undef, undef, undef, undef, undef, undef, undef, undef, undef, undef, undef, undef, undef, undef, undef, undef, undef, undef, undef, undef, undef, undef, undef, undef, undef, undef, undef, undef, undef, undef, undef, undef, undef, undef, undef, undef, undef, undef, undef, undef, undef, undef, undef, undef, undef, undef, undef, undef, undef, undef, undef, undef, undef, undef, undef, undef, undef, undef, undef, undef, undef, undef, undef, undef, undef, undef, undef, undef, undef, undef, undef, undef, undef, undef, undef, undef], []⟩) ∧ In w0.heap.size w0 w
def JFTakeFora (B : Nat) (a0 : Option Addr) (len0 : Nat) (cap0 : Nat) (z0 : List Int) (a1_0 : Int) (a1_1 : Int) (a1_2 : Int) (a2 : Int) (zs : List Int) (fv : Bool) (b_p1 : Nat) (b_p0 : Nat) : Nat → Act → World → Prop
  | 0, a, w => a.tmps[24]? = some (.agg #[.slice a0 len0 cap0])
  | 1, a, w => ∃ g, B ≤ g ∧ a.tmps[25]? = some (.agg #[.slice (some ⟨g, 0, none⟩) len0 len0]) ∧ OwnC w g (len0) len0 (z0.take len0)
  | 2, a, w => a.tmps[26]? = some (.agg #[.int .i64 a1_0, .int .i64 a1_1, .int .i64 a1_2])
  | 3, a, w => a.tmps[27]? = some (.agg #[.int .i64 a1_0, .int .i64 a1_1, .int .i64 a1_2])
  | 4, a, w => a.tmps[28]? = some (.int .i64 a2)
  | 5, a, w => ∃ g c, B ≤ g ∧ a.tmps[29]? = some (.tuple #[.agg #[.slice (some ⟨g, 0, none⟩) zs.length c], .bool fv]) ∧ OwnC w g (zs.length) c zs
  | 6, a, w => ∃ g c, B ≤ g ∧ a.tmps[23]? = some (.tuple #[.agg #[.slice (some ⟨g, 0, none⟩) zs.length c], .bool fv]) ∧ OwnC w g (zs.length) c zs
  | 7, a, w => ∃ g c, B ≤ g ∧ a.tmps[30]? = some (.agg #[.slice (some ⟨g, 0, none⟩) zs.length c]) ∧ OwnC w g (zs.length) c zs
  | 8, a, w => a.tmps[31]? = some (.bool fv)
  | 9, a, w => ∃ gs X, B ≤ gs ∧ a.tmps[8]? = some (.pointer (some ⟨gs, 0, none⟩)) ∧ Blk w gs 27 #[X]
  | 10, a, w => ∃ gs g c, B ≤ gs ∧ a.tmps[8]? = some (.pointer (some ⟨gs, 0, none⟩)) ∧ Blk w gs 27 #[.slice (some ⟨g, 0, none⟩) zs.length c] ∧ B ≤ g ∧ OwnC w g (zs.length) c zs
  | 11, a, w => a.tmps[9]? = some (.bool fv)
  | _, _, _ => True
def JITakeForb (w0 : World) (a0 : Option Addr) (len0 : Nat) (cap0 : Nat) (a1_0 : Int) (a1_1 : Int) (a1_2 : Int) (a2 : Int) (zs : List Int) (fv : Bool) (b_p1 : Nat) (b_p0 : Nat) (ha : Nat → Value) (gs_2 : Nat) (g_3 : Nat) (b_l2 : Nat) (a : Act) (w : World) : Prop := (∃ f : Nat → Value, a = ⟨#[Value.agg #[Value.slice a0 len0 cap0], Value.agg #[Value.int IntKind.i64 a1_0, Value.int IntKind.i64 a1_1, Value.int IntKind.i64 a1_2], Value.int IntKind.i64 a2, Value.pointer (some { block := b_p0, off := 0 }), Value.pointer (some { block := b_p1, off := 0 }), undef, Value.bool false, Value.int IntKind.i64 (1048576 - ((len0 : Nat) : Int)), Value.pointer (some { block := gs_2, off := 0 }), Value.bool fv, Value.pointer (some { block := b_l2, off := 0 }), f 11, f 12, undef, undef, undef, undef, undef, Value.agg #[Value.slice a0 len0 cap0], Value.int IntKind.i64 1048576, Value.int IntKind.i64 (1048576 - ((len0 : Nat) : Int)), Value.int IntKind.i64 (1048576 - ((len0 : Nat) : Int)), Value.bool (decide (1048576 - ((len0 : Nat) : Int) < 0)), ha 23, ha 24, ha 25, ha 26, ha 27, ha 28, ha 29, ha 30, ha 31, Value.agg #[Value.slice a0 len0 cap0], Value.agg #[Value.slice (some { block := g_3, off := 0 }) len0 len0], f 34, f 35, f 36, f 37, f 38, f 39, f 40, f 41, undef, undef, undef, undef, undef, undef, undef, undef, undef, undef, undef, undef, undef, undef, undef, undef, undef, undef, undef, undef, undef, undef, undef, undef, undef, undef, undef, undef, undef, undef, undef, undef, undef, undef, undef, undef, undef, undef, undef, undef, undef, undef, undef, undef, undef, undef, undef, undef, undef, undef, undef, undef, undef, undef, undef, undef, undef, undef, undef, undef, undef, undef, undef, undef, undef, undef, undef], []⟩) ∧ In w0.heap.size w0 w
def JFTakeForb (B : Nat) (a0 : Option Addr) (len0 : Nat) (cap0 : Nat) (a1_0 : Int) (a1_1 : Int) (a1_2 : Int) (a2 : Int) (zs : List Int) (fv : Bool) (b_p1 : Nat) (b_p0 : Nat) (ha : Nat → Value) (gs_2 : Nat) (g_3 : Nat) (b_l2 : Nat) : Nat → Act → World → Prop
  | 0, a, w => a.tmps[35]? = some (.agg #[.slice (some ⟨g_3, 0, none⟩) len0 len0])
  | 1, a, w => a.tmps[36]? = some (.agg #[.int .i64 a1_0, .int .i64 a1_1, .int .i64 a1_2])
  | 2, a, w => a.tmps[37]? = some (.agg #[.int .i64 a1_0, .int .i64 a1_1, .int .i64 a1_2])
  | 3, a, w => a.tmps[38]? = some (.int .i64 a2)
  | 4, a, w => ∃ g c, B ≤ g ∧ a.tmps[39]? = some (.tuple #[.agg #[.slice (some ⟨g, 0, none⟩) zs.length c], .bool fv]) ∧ OwnC w g (zs.length) c zs
  | 5, a, w => ∃ g c, B ≤ g ∧ a.tmps[34]? = some (.tuple #[.agg #[.slice (some ⟨g, 0, none⟩) zs.length c], .bool fv]) ∧ OwnC w g (zs.length) c zs
  | 6, a, w => ∃ g c, B ≤ g ∧ a.tmps[40]? = some (.agg #[.slice (some ⟨g, 0, none⟩) zs.length c]) ∧ OwnC w g (zs.length) c zs
  | 7, a, w => a.tmps[41]? = some (.bool fv)
  | 8, a, w => ∃ gs X, B ≤ gs ∧ a.tmps[11]? = some (.pointer (some ⟨gs, 0, none⟩)) ∧ Blk w gs 27 #[X]
  | 9, a, w => ∃ gs g c, B ≤ gs ∧ a.tmps[11]? = some (.pointer (some ⟨gs, 0, none⟩)) ∧ Blk w gs 27 #[.slice (some ⟨g, 0, none⟩) zs.length c] ∧ B ≤ g ∧ OwnC w g (zs.length) c zs
  | 10, a, w => a.tmps[12]? = some (.bool fv)
  | _, _, _ => True
def JITakeForc (w0 : World) (a0 : Option Addr) (len0 : Nat) (cap0 : Nat) (z0 : List Int) (a1_0 : Int) (a1_1 : Int) (a1_2 : Int) (a2 : Int) (zs : List Int) (fv : Bool) (b_p1 : Nat) (b_p0 : Nat) (ha : Nat → Value) (gs_2 : Nat) (g_2 : Nat) (c_2 : Nat) (g_3 : Nat) (b_l2 : Nat) (hb : Nat → Value) (gs_5 : Nat) (g_5 : Nat) (c_5 : Nat) (a : Act) (w : World) : Prop := (∃ f : Nat → Value, a = ⟨#[Value.agg #[Value.slice a0 len0 cap0], Value.agg #[Value.int IntKind.i64 a1_0, Value.int IntKind.i64 a1_1, Value.int IntKind.i64 a1_2], Value.int IntKind.i64 a2, Value.pointer (some { block := b_p0, off := 0 }), Value.pointer (some { block := b_p1, off := 0 }), undef, Value.bool false, Value.int IntKind.i64 (1048576 - ((len0 : Nat) : Int)), Value.pointer (some { block := gs_2, off := 0 }), Value.bool fv, Value.pointer (some { block := b_l2, off := 0 }), Value.pointer (some { block := gs_5, off := 0 }), Value.bool fv, undef, undef, undef, undef, undef, Value.agg #[Value.slice a0 len0 cap0], Value.int IntKind.i64 1048576, Value.int IntKind.i64 (1048576 - ((len0 : Nat) : Int)), Value.int IntKind.i64 (1048576 - ((len0 : Nat) : Int)), Value.bool (decide (1048576 - ((len0 : Nat) : Int) < 0)), ha 23, ha 24, ha 25, ha 26, ha 27, ha 28, ha 29, ha 30, ha 31, Value.agg #[Value.slice a0 len0 cap0], Value.agg #[Value.slice (some { block := g_3, off := 0 }) len0 len0], hb 34, hb 35, hb 36, hb 37, hb 38, hb 39, hb 40, hb 41, Value.agg #[Value.slice (some { block := g_5, off := 0 }) zs.length c_5], Value.agg #[Value.slice (some { block := g_2, off := 0 }) zs.length c_2], Value.bool true, Value.bool false, Value.bool false, Value.bool fv, Value.bool fv, Value.bool false, Value.bool false, f 51, f 52, f 53, f 54, f 55, undef, undef, undef, undef, undef, undef, undef, undef, undef, undef, undef, undef, undef, undef, undef, undef, undef, undef, undef, undef, undef, undef, undef, undef, undef, undef, undef, undef, undef, undef, undef, undef, undef, undef, undef, undef, undef, undef, undef, undef, undef, undef, undef, undef, undef, undef, undef, undef, undef, undef, undef, undef, undef], []⟩) ∧ In w0.heap.size w0 w
def JFTakeForc (B : Nat) (a0 : Option Addr) (len0 : Nat) (cap0 : Nat) (z0 : List Int) (a1_0 : Int) (a1_1 : Int) (a1_2 : Int) (a2 : Int) (zs : List Int) (fv : Bool) (b_p1 : Nat) (b_p0 : Nat) (ha : Nat → Value) (gs_2 : Nat) (g_2 : Nat) (c_2 : Nat) (g_3 : Nat) (b_l2 : Nat) (hb : Nat → Value) (gs_5 : Nat) (g_5 : Nat) (c_5 : Nat) : Nat → Act → World → Prop
  | 0, a, w => a.tmps[51]? = some (.agg #[.slice (some ⟨g_3, 0, none⟩) len0 len0])
  | 1, a, w => a.tmps[52]? = some (.agg #[.slice a0 len0 cap0])
  | 2, a, w => ∃ g, B ≤ g ∧ a.tmps[53]? = some (.agg #[.slice (some ⟨g, 0, none⟩) len0 len0]) ∧ OwnC w g (len0) len0 (z0.take len0)
  | 3, a, w => a.tmps[54]? = some (.bool true)
  | 4, a, w => a.tmps[55]? = some (.bool false)
  | _, _, _ => True
def JITakeFord (w0 : World) (a0 : Option Addr) (len0 : Nat) (cap0 : Nat) (z0 : List Int) (a1_0 : Int) (a1_1 : Int) (a1_2 : Int) (a2 : Int) (zs : List Int) (fv : Bool) (b_p1 : Nat) (b_p0 : Nat) (ha : Nat → Value) (gs_2 : Nat) (g_2 : Nat) (c_2 : Nat) (g_3 : Nat) (b_l2 : Nat) (hb : Nat → Value) (gs_5 : Nat) (g_5 : Nat) (c_5 : Nat) (hc : Nat → Value) (a : Act) (w : World) : Prop := (∃ f : Nat → Value, a = ⟨#[Value.agg #[Value.slice a0 len0 cap0], Value.agg #[Value.int IntKind.i64 a1_0, Value.int IntKind.i64 a1_1, Value.int IntKind.i64 a1_2], Value.int IntKind.i64 a2, Value.pointer (some { block := b_p0, off := 0 }), Value.pointer (some { block := b_p1, off := 0 }), undef, Value.bool false, Value.int IntKind.i64 (1048576 - ((len0 : Nat) : Int)), Value.pointer (some { block := gs_2, off := 0 }), Value.bool fv, Value.pointer (some { block := b_l2, off := 0 }), Value.pointer (some { block := gs_5, off := 0 }), Value.bool fv, Value.int IntKind.i64 (1 + ((len0 : Nat) : Int)), Value.int IntKind.i64 (1 + ((zs.length : Nat) : Int)), Value.int IntKind.i64 (1 + ((zs.length : Nat) : Int)), f 16, f 17, Value.agg #[Value.slice a0 len0 cap0], Value.int IntKind.i64 1048576, Value.int IntKind.i64 (1048576 - ((len0 : Nat) : Int)), Value.int IntKind.i64 (1048576 - ((len0 : Nat) : Int)), Value.bool (decide (1048576 - ((len0 : Nat) : Int) < 0)), ha 23, ha 24, ha 25, ha 26, ha 27, ha 28, ha 29, ha 30, ha 31, Value.agg #[Value.slice a0 len0 cap0], Value.agg #[Value.slice (some { block := g_3, off := 0 }) len0 len0], hb 34, hb 35, hb 36, hb 37, hb 38, hb 39, hb 40, hb 41, Value.agg #[Value.slice (some { block := g_5, off := 0 }) zs.length c_5], Value.agg #[Value.slice (some { block := g_2, off := 0 }) zs.length c_2], Value.bool true, Value.bool false, Value.bool false, Value.bool fv, Value.bool fv, Value.bool false, Value.bool false, hc 51, hc 52, hc 53, hc 54, Value.bool false, Value.agg #[Value.slice (some { block := g_3, off := 0 }) len0 len0], Value.int IntKind.i64 1, Value.int IntKind.i64 (1 + ((len0 : Nat) : Int)), Value.int IntKind.i64 (1 + ((len0 : Nat) : Int)), Value.bool (decide (1 + ((len0 : Nat) : Int) < 0)), Value.bool (decide (1 + ((len0 : Nat) : Int) < 0)), Value.agg #[Value.slice (some { block := g_5, off := 0 }) zs.length c_5], Value.agg #[Value.slice (some { block := g_2, off := 0 }) zs.length c_2], Value.bool true, Value.bool false, Value.bool (decide (1 + ((len0 : Nat) : Int) < 0)), Value.bool (decide (1 + ((len0 : Nat) : Int) < 0)), Value.bool fv, Value.bool fv, Value.bool false, Value.bool (decide (1 + ((len0 : Nat) : Int) < 0)), Value.agg #[Value.slice (some { block := g_5, off := 0 }) zs.length c_5], Value.int IntKind.i64 1, Value.int IntKind.i64 (1 + ((zs.length : Nat) : Int)), Value.agg #[Value.slice (some { block := g_5, off := 0 }) zs.length c_5], Value.int IntKind.i64 1, Value.int IntKind.i64 (1 + ((zs.length : Nat) : Int)), Value.int IntKind.i64 (1 + ((zs.length : Nat) : Int)), Value.bool (decide (1 + ((zs.length : Nat) : Int) < 0)), Value.int IntKind.i64 (1 + ((zs.length : Nat) : Int)), Value.int IntKind.i64 (1 + ((zs.length : Nat) : Int)), Value.bool false, f 83, f 84, f 85, f 86, f 87, f 88, f 89, f 90, f 91, undef, undef, undef, undef, undef, undef, undef, undef, undef, undef, undef, undef, undef, undef, undef, undef, undef], []⟩) ∧ In w0.heap.size w0 w
def JFTakeFord (B : Nat) (a0 : Option Addr) (len0 : Nat) (cap0 : Nat) (z0 : List Int) (a1_0 : Int) (a1_1 : Int) (a1_2 : Int) (a2 : Int) (zs : List Int) (fv : Bool) (b_p1 : Nat) (b_p0 : Nat) (ha : Nat → Value) (gs_2 : Nat) (g_2 : Nat) (c_2 : Nat) (g_3 : Nat) (b_l2 : Nat) (hb : Nat → Value) (gs_5 : Nat) (g_5 : Nat) (c_5 : Nat) (hc : Nat → Value) : Nat → Act → World → Prop
  | 0, a, w => a.tmps[84]? = some (.agg #[.slice a0 len0 cap0])
  | 1, a, w => ∃ g, B ≤ g ∧ a.tmps[85]? = some (.agg #[.slice (some ⟨g, 0, none⟩) len0 len0]) ∧ OwnC w g (len0) len0 (z0.take len0)
  | 2, a, w => a.tmps[86]? = some (.agg #[.int .i64 a1_0, .int .i64 a1_1, .int .i64 a1_2])
  | 3, a, w => a.tmps[87]? = some (.agg #[.int .i64 a1_0, .int .i64 a1_1, .int .i64 a1_2])
  | 4, a, w => a.tmps[88]? = some (.int .i64 a2)
  | 5, a, w => ∃ g c, B ≤ g ∧ a.tmps[89]? = some (.tuple #[.agg #[.slice (some ⟨g, 0, none⟩) zs.length c], .bool fv]) ∧ OwnC w g (zs.length) c zs
  | 6, a, w => ∃ g c, B ≤ g ∧ a.tmps[83]? = some (.tuple #[.agg #[.slice (some ⟨g, 0, none⟩) zs.length c], .bool fv]) ∧ OwnC w g (zs.length) c zs
  | 7, a, w => ∃ g c, B ≤ g ∧ a.tmps[90]? = some (.agg #[.slice (some ⟨g, 0, none⟩) zs.length c]) ∧ OwnC w g (zs.length) c zs
  | 8, a, w => a.tmps[91]? = some (.bool fv)
  | 9, a, w => ∃ gs X, B ≤ gs ∧ a.tmps[16]? = some (.pointer (some ⟨gs, 0, none⟩)) ∧ Blk w gs 27 #[X]
  | 10, a, w => ∃ gs g c, B ≤ gs ∧ a.tmps[16]? = some (.pointer (some ⟨gs, 0, none⟩)) ∧ Blk w gs 27 #[.slice (some ⟨g, 0, none⟩) zs.length c] ∧ B ≤ g ∧ OwnC w g (zs.length) c zs
  | 11, a, w => a.tmps[17]? = some (.bool fv)
  | _, _, _ => True
set_option maxHeartbeats 4000000 in
theorem walk_FnExactTakeFor (a0 : Option Addr) (len0 cap0 : Nat) (z0 : List Int) (a1_0 : Int) (u1_0 : (Lit.int .i64 a1_0).wf = true) (a1_1 : Int) (u1_1 : (Lit.int .i64 a1_1).wf = true) (a1_2 : Int) (u1_2 : (Lit.int .i64 a1_2).wf = true) (a2 : Int) (u2 : (Lit.int .i64 a2).wf = true) (w : World) (w0 : IsRow .i64 w a0 len0 cap0 z0) :
    Calls Try.prog 4 #[.agg #[.slice a0 len0 cap0], .agg #[.int .i64 a1_0, .int .i64 a1_1, .int .i64 a1_2], .int .i64 a2] w fun e w' => e = .returned (.bool true) ∧ Below w.heap.size w w' := by
  clear u1_0 u1_1 u1_2 u2
  have R0 := Lib.hid (reads_row w0)
  have m0 := row_le w0
  clear w0
  by_cases g0 : (1048576 : Int) < (len0 : Int)
  · go_enter Try.func4, Try.ntmps4
    go_wp2_with fail
    refine (szStock_c a0 len0 cap0 1048576 _ m0 (by omega) (by omega)).mono ?_
    rintro _ w_1 ⟨rfl, hb_1⟩
    rw [if_pos (by omega)]
    have i_1 : In w.heap.size w w_1 := In.step (by (repeat (first | exact In.refl _ | assumption | apply In.alloc | apply In.drewN | apply In.drew | (refine In.step ?_ (by assumption))))) hb_1
    go_wp2
    go_ret
    exact (show Val _ _ _ _ from Val.mk' rfl (by (repeat (first | exact In.refl _ | assumption | apply In.alloc | apply In.drewN | apply In.drew | (refine In.step ?_ (by assumption))))))
  have g0' : (len0 : Int) ≤ 1048576 := by omega
  clear g0
  have hm0 : len0 ≤ 1048576 := by omega
  obtain ⟨zs, h_zs⟩ : ∃ x : List Int, TakeForL len0 (z0.take len0) a1_0 a1_1 a1_2 a2 = x := ⟨_, rfl⟩
  have H_zs := Lib.hid h_zs
  have hbd_zs : zs.length ≤ 1048576 := by rw [← h_zs]; rw [TakeForL_len R0.out.1]; exact hm0
  clear h_zs
  obtain ⟨fv, h_fv⟩ : ∃ x : Bool, tkB len0 (z0.take len0) a1_0 a1_1 a1_2 a2 = x := ⟨_, rfl⟩
  have H_fv := Lib.hid h_fv
  clear h_fv
  have HsC : Hid (∀ (ad : Addr) (cap : Nat) (W : World), ReadsI W (some ad) len0 (z0.take len0) → Calls Try.prog 14 #[.agg #[.slice (some ad) len0 cap], .agg #[.int .i64 a1_0, .int .i64 a1_1, .int .i64 a1_2], .int .i64 a2] W (RowStV zs (.bool fv) W)) := Lib.hid (fun ad cap W h => by rw [← H_zs.out, ← H_fv.out]; exact sTakeFor ad len0 cap (z0.take len0) a1_0 a1_1 a1_2 a2 W (by omega) h)
  have HiC : Hid (∀ (ad : Addr) (cap : Nat) (W : World), ReadsI W (some ad) len0 (z0.take len0) → Calls Try.prog 16 #[.agg #[.slice (some ad) len0 cap], .agg #[.int .i64 a1_0, .int .i64 a1_1, .int .i64 a1_2], .int .i64 a2] W (RowStV zs (.bool fv) W)) := Lib.hid (fun ad cap W h => by rw [← H_zs.out, ← H_fv.out]; exact iTakeFor ad len0 cap (z0.take len0) a1_0 a1_1 a1_2 a2 W (by omega) h)
  obtain ⟨b_p0, hbx_p0⟩ : ∃ b, b = w.heap.size := ⟨_, rfl⟩
  have kk_p0 : Blk ((w.alloc (.cells #[.slice a0 len0 cap0] 24)).alloc (.cells #[.int .i64 a1_0, .int .i64 a1_1, .int .i64 a1_2] 32)) b_p0 24 #[.slice a0 len0 cap0] := ((Blk.new' (w := w) (t := 24) (cs := #[.slice a0 len0 cap0]) (g := b_p0) (by simp [hbx_p0])).alloc (.cells #[.int .i64 a1_0, .int .i64 a1_1, .int .i64 a1_2] 32))
  obtain ⟨b_p1, hbx_p1⟩ : ∃ b, b = w.heap.size + 1 := ⟨_, rfl⟩
  have kk_p1 : Blk ((w.alloc (.cells #[.slice a0 len0 cap0] 24)).alloc (.cells #[.int .i64 a1_0, .int .i64 a1_1, .int .i64 a1_2] 32)) b_p1 32 #[.int .i64 a1_0, .int .i64 a1_1, .int .i64 a1_2] := (Blk.new' (w := (w.alloc (.cells #[.slice a0 len0 cap0] 24))) (t := 32) (cs := #[.int .i64 a1_0, .int .i64 a1_1, .int .i64 a1_2]) (g := b_p1) (by simp [hbx_p1]))
  have hb_0 : Below w.heap.size w ((w.alloc (.cells #[.slice a0 len0 cap0] 24)).alloc (.cells #[.int .i64 a1_0, .int .i64 a1_1, .int .i64 a1_2] 32)) := by
    have h : In w.heap.size w ((w.alloc (.cells #[.slice a0 len0 cap0] 24)).alloc (.cells #[.int .i64 a1_0, .int .i64 a1_1, .int .i64 a1_2] 32)) := by (repeat (first | exact In.refl _ | assumption | apply In.alloc | apply In.drewN | apply In.drew | (refine In.step ?_ (by assumption))))
    exact h.below
  go_enter Try.func4, Try.ntmps4
  go_wp2_with fail
  rw [← hbx_p1]
  clear hbx_p1
  rw [← hbx_p0]
  clear hbx_p0
  generalize ((w.alloc (.cells #[.slice a0 len0 cap0] 24)).alloc (.cells #[.int .i64 a1_0, .int .i64 a1_1, .int .i64 a1_2] 32)) = w_0 at *
  have i_0 : In w.heap.size w w_0 := In.step (by (repeat (first | exact In.refl _ | assumption | apply In.alloc | apply In.drewN | apply In.drew | (refine In.step ?_ (by assumption))))) hb_0
  have k_0_p0 : Blk w_0 (b_p0) 24 #[.slice a0 len0 cap0] := kk_p0
  have c_0_p0_0 : w_0.cell? ⟨b_p0, 0, none⟩ = some (.slice a0 len0 cap0) := k_0_p0.cell 0
  have l_0_p0 := k_0_p0.lt
  have k_0_p1 : Blk w_0 (b_p1) 32 #[.int .i64 a1_0, .int .i64 a1_1, .int .i64 a1_2] := kk_p1
  have c_0_p1_0 : w_0.cell? ⟨b_p1, 0, none⟩ = some (.int .i64 a1_0) := k_0_p1.cell 0
  have c_0_p1_1 : w_0.cell? ⟨b_p1, 1, none⟩ = some (.int .i64 a1_1) := k_0_p1.cell 1
  have c_0_p1_2 : w_0.cell? ⟨b_p1, 2, none⟩ = some (.int .i64 a1_2) := k_0_p1.cell 2
  have l_0_p1 := k_0_p1.lt
  clear kk_p0 kk_p1
  go_wp2_with fail
  refine (szStock_c a0 len0 cap0 1048576 _ m0 (by omega) (by omega)).mono ?_
  rintro _ w_1 ⟨rfl, hb_1⟩
  rw [if_neg (by omega)]
  have i_1 : In w.heap.size w w_1 := In.step (by (repeat (first | exact In.refl _ | assumption | apply In.alloc | apply In.drewN | apply In.drew | (refine In.step ?_ (by assumption))))) hb_1
  have k_1_p0 : Blk w_1 (b_p0) 24 #[.slice a0 len0 cap0] := Blk.step (by (with_reducible (repeat (first | assumption | exact Blk.new' (by simp) | apply Blk.drewN | apply Blk.drew | apply Blk.alloc | (refine Blk.far ?_ (by (try simp) <;> omega) _))))) hb_1
  have c_1_p0_0 : w_1.cell? ⟨b_p0, 0, none⟩ = some (.slice a0 len0 cap0) := k_1_p0.cell 0
  have l_1_p0 := k_1_p0.lt
  have k_1_p1 : Blk w_1 (b_p1) 32 #[.int .i64 a1_0, .int .i64 a1_1, .int .i64 a1_2] := Blk.step (by (with_reducible (repeat (first | assumption | exact Blk.new' (by simp) | apply Blk.drewN | apply Blk.drew | apply Blk.alloc | (refine Blk.far ?_ (by (try simp) <;> omega) _))))) hb_1
  have c_1_p1_0 : w_1.cell? ⟨b_p1, 0, none⟩ = some (.int .i64 a1_0) := k_1_p1.cell 0
  have c_1_p1_1 : w_1.cell? ⟨b_p1, 1, none⟩ = some (.int .i64 a1_1) := k_1_p1.cell 1
  have c_1_p1_2 : w_1.cell? ⟨b_p1, 2, none⟩ = some (.int .i64 a1_2) := k_1_p1.cell 2
  have l_1_p1 := k_1_p1.lt
  clear i_0 k_0_p0 c_0_p0_0 l_0_p0 k_0_p1 c_0_p1_0 c_0_p1_1 c_0_p1_2 l_0_p1 hb_0
  go_wp2_with fail
  have hBw_1 : w_1.heap.size ≤ w_1.heap.size := Nat.le_refl _
  obtain ⟨B_1, hB_1⟩ : ∃ B, B = w_1.heap.size := ⟨_, rfl⟩
  have hBl_1 : B_1 ≤ w_1.heap.size := by omega
  have hBg_1 : w_1.heap.size ≤ B_1 := by omega
  clear hBw_1 hB_1
  refine wp_region_facts (JITakeFora w_1 a0 len0 cap0 z0 a1_0 a1_1 a1_2 a2 zs fv b_p1 b_p0) (JFTakeFora B_1 a0 len0 cap0 z0 a1_0 a1_1 a1_2 a2 zs fv b_p1 b_p0) (by kernel_rfl) (by kernel_rfl) ⟨⟨fun _ => undef, rfl⟩, (In.refl _).drew⟩ ?_ ?_
  · intro a v1 i o ho hI haf
    obtain ⟨⟨f, rfl⟩, hin⟩ := hI
    have kv_p0 : Blk v1 (b_p0) 24 #[.slice a0 len0 cap0] := Blk.step k_1_p0 hin.below
    have cv_p0_0 := kv_p0.cell 0
    have kv_p1 : Blk v1 (b_p1) 32 #[.int .i64 a1_0, .int .i64 a1_1, .int .i64 a1_2] := Blk.step k_1_p1 hin.below
    have cv_p1_0 := kv_p1.cell 0
    have cv_p1_1 := kv_p1.cell 1
    have cv_p1_2 := kv_p1.cell 2
    have hi : i < 12 := by
      rcases Nat.lt_or_ge i 12 with h | h
      · exact h
      · simp [h] at ho
    suffices H : ∀ K : Act → World → Prop, (∀ a' w', ((JITakeFora w_1 a0 len0 cap0 z0 a1_0 a1_1 a1_2 a2 zs fv b_p1 b_p0) a' w' ∧ (JFTakeFora B_1 a0 len0 cap0 z0 a1_0 a1_1 a1_2 a2 zs fv b_p1 b_p0) i a' w' ∧ ∀ j, j ≠ i → waitsB _ j i = false → (JFTakeFora B_1 a0 len0 cap0 z0 a1_0 a1_1 a1_2 a2 zs fv b_p1 b_p0) j ⟨#[Value.agg #[Value.slice a0 len0 cap0], Value.agg #[Value.int IntKind.i64 a1_0, Value.int IntKind.i64 a1_1, Value.int IntKind.i64 a1_2], Value.int IntKind.i64 a2, Value.pointer (some { block := b_p0, off := 0 }), Value.pointer (some { block := b_p1, off := 0 }), undef, Value.bool false, Value.int IntKind.i64 (1048576 - ((len0 : Nat) : Int)), f 8, f 9, undef, undef, undef, undef, undef, undef, undef, undef, Value.agg #[Value.slice a0 len0 cap0], Value.int IntKind.i64 1048576, Value.int IntKind.i64 (1048576 - ((len0 : Nat) : Int)), Value.int IntKind.i64 (1048576 - ((len0 : Nat) : Int)), Value.bool (decide (1048576 - ((len0 : Nat) : Int) < 0)), f 23, f 24, f 25, f 26, f 27, f 28, f 29, f 30, f 31, undef, undef, undef, undef, undef, undef, undef, undef, undef, undef, undef, undef, undef, undef, undef, undef, undef, undef, undef, undef, undef, undef, undef, undef, undef, undef, undef, undef, undef, undef, undef, undef, undef, undef, undef, undef, undef, undef, undef, undef, undef, undef, undef, undef, undef, undef, undef, undef, undef, undef, undef, undef, undef, undef, undef, undef, undef, undef, undef, undef, undef, undef, undef, undef, undef, undef, undef, undef, undef, undef, undef, undef, undef, undef, undef, undef, undef], []⟩ v1 → (JFTakeFora B_1 a0 len0 cap0 z0 a1_0 a1_1 a1_2 a2 zs fv b_p1 b_p0) j a' w') → K a' w') → wpOp _ _ _ i K ⟨#[Value.agg #[Value.slice a0 len0 cap0], Value.agg #[Value.int IntKind.i64 a1_0, Value.int IntKind.i64 a1_1, Value.int IntKind.i64 a1_2], Value.int IntKind.i64 a2, Value.pointer (some { block := b_p0, off := 0 }), Value.pointer (some { block := b_p1, off := 0 }), undef, Value.bool false, Value.int IntKind.i64 (1048576 - ((len0 : Nat) : Int)), f 8, f 9, undef, undef, undef, undef, undef, undef, undef, undef, Value.agg #[Value.slice a0 len0 cap0], Value.int IntKind.i64 1048576, Value.int IntKind.i64 (1048576 - ((len0 : Nat) : Int)), Value.int IntKind.i64 (1048576 - ((len0 : Nat) : Int)), Value.bool (decide (1048576 - ((len0 : Nat) : Int) < 0)), f 23, f 24, f 25, f 26, f 27, f 28, f 29, f 30, f 31, undef, undef, undef, undef, undef, undef, undef, undef, undef, undef, undef, undef, undef, undef, undef, undef, undef, undef, undef, undef, undef, undef, undef, undef, undef, undef, undef, undef, undef, undef, undef, undef, undef, undef, undef, undef, undef, undef, undef, undef, undef, undef, undef, undef, undef, undef, undef, undef, undef, undef, undef, undef, undef, undef, undef, undef, undef, undef, undef, undef, undef, undef, undef, undef, undef, undef, undef, undef, undef, undef, undef, undef, undef, undef, undef, undef, undef], []⟩ v1 from H _ fun _ _ h => h
    intro K hK
    rcases (by omega : i = 0 ∨ i = 1 ∨ i = 2 ∨ i = 3 ∨ i = 4 ∨ i = 5 ∨ i = 6 ∨ i = 7 ∨ i = 8 ∨ i = 9 ∨ i = 10 ∨ i = 11) with rfl | rfl | rfl | rfl | rfl | rfl | rfl | rfl | rfl | rfl | rfl | rfl
    · obtain rfl := Option.some.inj ho
      refine wpOp_plain rfl rfl ?_
      unfold Oper.wp
      go_simp
      exact hK _ _ ⟨⟨⟨updf f 24 (.agg #[.slice a0 len0 cap0]), rfl⟩, hin⟩, rfl, fun j hj hw hf => by
          rcases j with _ | _ | _ | _ | _ | _ | _ | _ | _ | _ | _ | _ | j
          all_goals first | exact absurd rfl hj | exact hf | rfl⟩
    · obtain rfl := Option.some.inj ho
      have f0 := haf { on := 0, ground := .data } (by simp) rfl
      have f0 : _ = _ := Option.some.inj f0
      refine wpOp_plain rfl rfl ?_
      unfold Oper.wp
      go_simp
      refine (toStock_c a0 len0 cap0 (z0.take len0) _ (by omega) (R0.out.below ((i_1).trans hin).below (Nat.le_refl _))).mono ?_
      rintro _ v2 ⟨g2, rfl, ho2, hg2, hb2⟩
      exact hK _ _ ⟨⟨⟨updf f 25 (.agg #[.slice (some ⟨g2, 0, none⟩) len0 len0]), rfl⟩, hin.step hb2⟩, ⟨g2, Nat.le_trans (Nat.le_trans hBl_1 hin.size) hg2, rfl, ho2⟩, fun j hj hw hf => by
          rcases j with _ | _ | _ | _ | _ | _ | _ | _ | _ | _ | _ | _ | j
          all_goals first | exact absurd rfl hj | exact hf | rfl | (obtain ⟨g, c, h0, h1, h2⟩ := hf; exact ⟨g, c, h0, h1, h2.step hb2⟩) | (obtain ⟨g, h0, h1, h2⟩ := hf; exact ⟨g, h0, h1, h2.step hb2⟩) | (obtain ⟨gs, X, h0, h1, h2⟩ := hf; exact ⟨gs, X, h0, h1, h2.step hb2⟩) | (obtain ⟨gs, g, c, h0, h1, h2, h3, h4⟩ := hf; exact ⟨gs, g, c, h0, h1, h2.step hb2, h3, h4.step hb2⟩)⟩
    · obtain rfl := Option.some.inj ho
      refine wpOp_plain rfl rfl ?_
      unfold Oper.wp
      go_simp
      exact hK _ _ ⟨⟨⟨updf f 26 (.agg #[.int .i64 a1_0, .int .i64 a1_1, .int .i64 a1_2]), rfl⟩, hin⟩, rfl, fun j hj hw hf => by
          rcases j with _ | _ | _ | _ | _ | _ | _ | _ | _ | _ | _ | _ | j
          all_goals first | exact absurd rfl hj | exact hf | rfl⟩
    · obtain rfl := Option.some.inj ho
      have f2 := haf { on := 2, ground := .data } (by simp) rfl
      have f2 : _ = _ := Option.some.inj f2
      refine wpOp_plain rfl rfl ?_
      unfold Oper.wp
      go_simp
      refine (toDough_c a1_0 a1_1 a1_2 _).mono ?_
      rintro _ v2 ⟨rfl, hb2⟩
      exact hK _ _ ⟨⟨⟨updf f 27 (.agg #[.int .i64 a1_0, .int .i64 a1_1, .int .i64 a1_2]), rfl⟩, hin.step hb2⟩, rfl, fun j hj hw hf => by
          rcases j with _ | _ | _ | _ | _ | _ | _ | _ | _ | _ | _ | _ | j
          all_goals first | exact absurd rfl hj | exact hf | rfl | (obtain ⟨g, c, h0, h1, h2⟩ := hf; exact ⟨g, c, h0, h1, h2.step hb2⟩) | (obtain ⟨g, h0, h1, h2⟩ := hf; exact ⟨g, h0, h1, h2.step hb2⟩) | (obtain ⟨gs, X, h0, h1, h2⟩ := hf; exact ⟨gs, X, h0, h1, h2.step hb2⟩) | (obtain ⟨gs, g, c, h0, h1, h2, h3, h4⟩ := hf; exact ⟨gs, g, c, h0, h1, h2.step hb2, h3, h4.step hb2⟩)⟩
    · obtain rfl := Option.some.inj ho
      refine wpOp_plain rfl rfl ?_
      unfold Oper.wp
      go_simp
      exact hK _ _ ⟨⟨⟨updf f 28 (.int .i64 a2), rfl⟩, hin⟩, rfl, fun j hj hw hf => by
          rcases j with _ | _ | _ | _ | _ | _ | _ | _ | _ | _ | _ | _ | j
          all_goals first | exact absurd rfl hj | exact hf | rfl⟩
    · obtain rfl := Option.some.inj ho
      obtain ⟨g_1, hb1, f1, ho1⟩ := haf { on := 1, ground := .data } (by simp) rfl
      have f1 : _ = _ := Option.some.inj f1
      have f3 := haf { on := 3, ground := .data } (by simp) rfl
      have f3 : _ = _ := Option.some.inj f3
      have f4 := haf { on := 4, ground := .data } (by simp) rfl
      have f4 : _ = _ := Option.some.inj f4
      refine wpOp_plain rfl rfl ?_
      unfold Oper.wp
      go_simp
      refine (HsC.out ⟨g_1, 0, none⟩ (len0) _ (ho1.reads)).mono ?_
      rintro _ v2 ⟨g2, c2, rfl, ho2, hg2, hb2⟩
      exact hK _ _ ⟨⟨⟨updf f 29 (.tuple #[.agg #[.slice (some ⟨g2, 0, none⟩) zs.length c2], .bool fv]), rfl⟩, hin.step hb2⟩, ⟨g2, c2, Nat.le_trans (Nat.le_trans hBl_1 hin.size) hg2, rfl, ho2⟩, fun j hj hw hf => by
          rcases j with _ | _ | _ | _ | _ | _ | _ | _ | _ | _ | _ | _ | j
          all_goals first | exact absurd rfl hj | exact hf | rfl | (obtain ⟨g, c, h0, h1, h2⟩ := hf; exact ⟨g, c, h0, h1, h2.step hb2⟩) | (obtain ⟨g, h0, h1, h2⟩ := hf; exact ⟨g, h0, h1, h2.step hb2⟩) | (obtain ⟨gs, X, h0, h1, h2⟩ := hf; exact ⟨gs, X, h0, h1, h2.step hb2⟩) | (obtain ⟨gs, g, c, h0, h1, h2, h3, h4⟩ := hf; exact ⟨gs, g, c, h0, h1, h2.step hb2, h3, h4.step hb2⟩)⟩
    · obtain rfl := Option.some.inj ho
      obtain ⟨g_5, c_5, hb5, f5, ho5⟩ := haf { on := 5, ground := .data } (by simp) rfl
      have f5 : _ = _ := Option.some.inj f5
      refine wpOp_plain rfl rfl ?_
      unfold Oper.wp
      go_simp
      exact hK _ _ ⟨⟨⟨updf f 23 (.tuple #[.agg #[.slice (some ⟨g_5, 0, none⟩) zs.length c_5], .bool fv]), rfl⟩, hin⟩, ⟨g_5, c_5, hb5, rfl, ho5⟩, fun j hj hw hf => by
          rcases j with _ | _ | _ | _ | _ | _ | _ | _ | _ | _ | _ | _ | j
          all_goals first | exact absurd rfl hj | exact hf | rfl⟩
    · obtain rfl := Option.some.inj ho
      obtain ⟨g_6, c_6, hb6, f6, ho6⟩ := haf { on := 6, ground := .data } (by simp) rfl
      have f6 : _ = _ := Option.some.inj f6
      refine wpOp_plain rfl rfl ?_
      unfold Oper.wp
      go_simp
      exact hK _ _ ⟨⟨⟨updf f 30 (.agg #[.slice (some ⟨g_6, 0, none⟩) zs.length c_6]), rfl⟩, hin⟩, ⟨g_6, c_6, hb6, rfl, ho6⟩, fun j hj hw hf => by
          rcases j with _ | _ | _ | _ | _ | _ | _ | _ | _ | _ | _ | _ | j
          all_goals first | exact absurd rfl hj | exact hf | rfl⟩
    · obtain rfl := Option.some.inj ho
      obtain ⟨g_6, c_6, hb6, f6, ho6⟩ := haf { on := 6, ground := .data } (by simp) rfl
      have f6 : _ = _ := Option.some.inj f6
      refine wpOp_plain rfl rfl ?_
      unfold Oper.wp
      go_simp
      exact hK _ _ ⟨⟨⟨updf f 31 (.bool fv), rfl⟩, hin⟩, rfl, fun j hj hw hf => by
          rcases j with _ | _ | _ | _ | _ | _ | _ | _ | _ | _ | _ | _ | j
          all_goals first | exact absurd rfl hj | exact hf | rfl⟩
    · obtain rfl := Option.some.inj ho
      refine wpOp_plain rfl rfl ?_
      unfold Oper.wp
      go_simp
      exact hK _ _ ⟨⟨⟨updf f 8 (.pointer (some ⟨v1.heap.size, 0, none⟩)), rfl⟩, hin.alloc _⟩, ⟨v1.heap.size, _, Nat.le_trans hBl_1 hin.size, rfl, Blk.new v1 _ _⟩, fun j hj hw hf => by
          rcases j with _ | _ | _ | _ | _ | _ | _ | _ | _ | _ | _ | _ | j
          all_goals first | exact absurd rfl hj | exact hf | rfl | (obtain ⟨g, c, h0, h1, h2⟩ := hf; exact ⟨g, c, h0, h1, h2.step ((Below.refl _ v1).alloc (Nat.le_refl _) _)⟩) | (obtain ⟨g, h0, h1, h2⟩ := hf; exact ⟨g, h0, h1, h2.step ((Below.refl _ v1).alloc (Nat.le_refl _) _)⟩) | (obtain ⟨gs, X, h0, h1, h2⟩ := hf; exact ⟨gs, X, h0, h1, h2.step ((Below.refl _ v1).alloc (Nat.le_refl _) _)⟩) | (obtain ⟨gs, g, c, h0, h1, h2, h3, h4⟩ := hf; exact ⟨gs, g, c, h0, h1, h2.step ((Below.refl _ v1).alloc (Nat.le_refl _) _), h3, h4.step ((Below.refl _ v1).alloc (Nat.le_refl _) _)⟩) | exact absurd (hw.symm.trans (show waitsB _ _ _ = true by kernel_rfl)) (by decide)⟩
    · obtain rfl := Option.some.inj ho
      obtain ⟨g_7, c_7, hb7, f7, ho7⟩ := haf { on := 7, ground := .data } (by simp) rfl
      have f7 : _ = _ := Option.some.inj f7
      obtain ⟨gs, X, hgB, hsl, hbk⟩ := haf { on := 9, ground := .data } (by simp) rfl
      have hsl : _ = _ := Option.some.inj hsl
      have z0 := hbk.cell 0
      have y0 := hbk.frozen 0
      have hgw := Nat.le_trans hBg_1 hgB
      have hb2 : Below w_1.heap.size v1 (v1.setCell ⟨gs, 0, none⟩ (.slice (some ⟨g_7, 0, none⟩) zs.length c_7)) := (Below.refl _ _).setCell hgw _
      have hgr : v1.grownBy (v1.setCell ⟨gs, 0, none⟩ (.slice (some ⟨g_7, 0, none⟩) zs.length c_7)) (some gs) := only_set _ _
      have HBK : Blk (v1.setCell ⟨gs, 0, none⟩ (.slice (some ⟨g_7, 0, none⟩) zs.length c_7)) gs 27 #[.slice (some ⟨g_7, 0, none⟩) zs.length c_7] := hbk.set_ 0 _
      refine wpOp_plain rfl rfl ?_
      unfold Oper.wp
      go_simp
      exact hK _ _ ⟨⟨⟨f, rfl⟩, hin.wide hb2⟩, ⟨gs, g_7, c_7, hgB, congrArg some hsl, HBK, hb7, ho7.far hbk (by decide) hgr⟩, fun j hj hw hf => by
          rcases j with _ | _ | _ | _ | _ | _ | _ | _ | _ | _ | _ | _ | j
          all_goals first | exact absurd rfl hj | exact hf | rfl | exact ⟨gs, _, hgB, congrArg some hsl, HBK⟩ | (obtain ⟨g, c, h0, h1, h2⟩ := hf; exact ⟨g, c, h0, h1, h2.far hbk (by decide) hgr⟩) | (obtain ⟨g, h0, h1, h2⟩ := hf; exact ⟨g, h0, h1, h2.far hbk (by decide) hgr⟩)⟩
    · obtain rfl := Option.some.inj ho
      have f8 := haf { on := 8, ground := .data } (by simp) rfl
      have f8 : _ = _ := Option.some.inj f8
      refine wpOp_plain rfl rfl ?_
      unfold Oper.wp
      go_simp
      exact hK _ _ ⟨⟨⟨updf f 9 (.bool fv), rfl⟩, hin⟩, rfl, fun j hj hw hf => by
          rcases j with _ | _ | _ | _ | _ | _ | _ | _ | _ | _ | _ | _ | j
          all_goals first | exact absurd rfl hj | exact hf | rfl⟩
  intro a w_2 hI hF
  obtain ⟨⟨ha, rfl⟩, hn_2⟩ := hI
  have hb_2 := hn_2.below
  obtain ⟨gs_2, g_2, c_2, hgs_2, hs_2, kk_2, hg_2, ho_2⟩ := hF 10 (by decide)
  have hs_2 : ha 8 = _ := Option.some.inj hs_2
  have he_2_9 : ha 9 = _ := Option.some.inj (hF 11 (by decide))
  clear hF
  rw [hs_2, he_2_9]
  clear hs_2 he_2_9
  have o_2_X1 : OwnC w_2 g_2 (zs.length) c_2 zs := ho_2
  clear ho_2 hg_2
  have kb_2 : Blk w_2 (gs_2) 27 #[.slice (some ⟨g_2, 0, none⟩) zs.length c_2] := kk_2
  clear kk_2
  have i_2 : In w.heap.size w w_2 := In.step (by (repeat (first | exact In.refl _ | assumption | apply In.alloc | apply In.drewN | apply In.drew | (refine In.step ?_ (by assumption))))) hb_2
  have k_2_p0 : Blk w_2 (b_p0) 24 #[.slice a0 len0 cap0] := Blk.step (by (with_reducible (repeat (first | assumption | exact Blk.new' (by simp) | apply Blk.drewN | apply Blk.drew | apply Blk.alloc | (refine Blk.far ?_ (by (try simp) <;> omega) _))))) hb_2
  have c_2_p0_0 : w_2.cell? ⟨b_p0, 0, none⟩ = some (.slice a0 len0 cap0) := k_2_p0.cell 0
  have l_2_p0 := k_2_p0.lt
  have k_2_p1 : Blk w_2 (b_p1) 32 #[.int .i64 a1_0, .int .i64 a1_1, .int .i64 a1_2] := Blk.step (by (with_reducible (repeat (first | assumption | exact Blk.new' (by simp) | apply Blk.drewN | apply Blk.drew | apply Blk.alloc | (refine Blk.far ?_ (by (try simp) <;> omega) _))))) hb_2
  have c_2_p1_0 : w_2.cell? ⟨b_p1, 0, none⟩ = some (.int .i64 a1_0) := k_2_p1.cell 0
  have c_2_p1_1 : w_2.cell? ⟨b_p1, 1, none⟩ = some (.int .i64 a1_1) := k_2_p1.cell 1
  have c_2_p1_2 : w_2.cell? ⟨b_p1, 2, none⟩ = some (.int .i64 a1_2) := k_2_p1.cell 2
  have l_2_p1 := k_2_p1.lt
  clear i_1 k_1_p0 c_1_p0_0 l_1_p0 k_1_p1 c_1_p1_0 c_1_p1_1 c_1_p1_2 l_1_p1 hb_1
  have k_2_l1 : Blk w_2 (gs_2) 27 #[.slice (some ⟨g_2, 0, none⟩) zs.length c_2] := kb_2
  have c_2_l1_0 : w_2.cell? ⟨gs_2, 0, none⟩ = some (.slice (some ⟨g_2, 0, none⟩) zs.length c_2) := k_2_l1.cell 0
  clear kb_2 hn_2 hgs_2
  clear hBl_1 hBg_1
  have HW := Lib.hid (OwnC.reads o_2_X1)
  clear o_2_X1
  have IC := Lib.hid i_2
  have j_2 : In w_2.heap.size w_2 w_2 := In.refl _
  go_wp2_with fail
  refine (toStock_c a0 len0 cap0 (z0.take len0) _ (by omega) (by exact R0.out.below (In.below (IC.out.trans (by (repeat (first | exact In.refl _ | assumption | apply In.alloc | apply In.drewN | apply In.drew | (refine In.step ?_ (by assumption))))))) (Nat.le_refl _))).mono ?_
  rintro _ w_3 ⟨g_3, rfl, ho_3, hg_3, hb_3⟩
  have GX_X2 : Hid (w_2.heap.size ≤ g_3) := Lib.hid (by have h1 := hg_3; (try simp at h1); have h2 := In.size j_2; omega)
  have o_3_X2 : OwnC w_3 g_3 (len0) len0 (z0.take len0) := ho_3
  clear ho_3 hg_3
  have j_3 : In w_2.heap.size w_2 w_3 := In.step (by (repeat (first | exact In.refl _ | assumption | apply In.alloc | apply In.drewN | apply In.drew | (refine In.step ?_ (by assumption))))) hb_3
  have k_3_p0 : Blk w_3 (b_p0) 24 #[.slice a0 len0 cap0] := Blk.step (by (with_reducible (repeat (first | assumption | exact Blk.new' (by simp) | apply Blk.drewN | apply Blk.drew | apply Blk.alloc | (refine Blk.far ?_ (by (try simp) <;> omega) _))))) hb_3
  have c_3_p0_0 : w_3.cell? ⟨b_p0, 0, none⟩ = some (.slice a0 len0 cap0) := k_3_p0.cell 0
  have l_3_p0 := k_3_p0.lt
  have k_3_p1 : Blk w_3 (b_p1) 32 #[.int .i64 a1_0, .int .i64 a1_1, .int .i64 a1_2] := Blk.step (by (with_reducible (repeat (first | assumption | exact Blk.new' (by simp) | apply Blk.drewN | apply Blk.drew | apply Blk.alloc | (refine Blk.far ?_ (by (try simp) <;> omega) _))))) hb_3
  have c_3_p1_0 : w_3.cell? ⟨b_p1, 0, none⟩ = some (.int .i64 a1_0) := k_3_p1.cell 0
  have c_3_p1_1 : w_3.cell? ⟨b_p1, 1, none⟩ = some (.int .i64 a1_1) := k_3_p1.cell 1
  have c_3_p1_2 : w_3.cell? ⟨b_p1, 2, none⟩ = some (.int .i64 a1_2) := k_3_p1.cell 2
  have l_3_p1 := k_3_p1.lt
  have k_3_l1 : Blk w_3 (gs_2) 27 #[.slice (some ⟨g_2, 0, none⟩) zs.length c_2] := Blk.step (by (with_reducible (repeat (first | assumption | exact Blk.new' (by simp) | apply Blk.drewN | apply Blk.drew | apply Blk.alloc | (refine Blk.far ?_ (by (try simp) <;> omega) _))))) hb_3
  have c_3_l1_0 : w_3.cell? ⟨gs_2, 0, none⟩ = some (.slice (some ⟨g_2, 0, none⟩) zs.length c_2) := k_3_l1.cell 0
  have l_3_l1 := k_3_l1.lt
  clear i_2 k_2_p0 c_2_p0_0 l_2_p0 k_2_p1 c_2_p1_0 c_2_p1_1 c_2_p1_2 l_2_p1 hb_2 k_2_l1 c_2_l1_0 j_2
  go_wp2_with fail
  obtain ⟨b_l2, hbx_l2⟩ : ∃ b, b = w_3.heap.size := ⟨_, rfl⟩
  rw [← hbx_l2]
  have hb_4 : Below w_3.heap.size w_3 (w_3.alloc (.cells #[.slice (some ⟨g_3, 0, none⟩) len0 len0] 27)) := (Below.refl _ _).alloc (Nat.le_refl _) _
  have kk_4 : Blk (w_3.alloc (.cells #[.slice (some ⟨g_3, 0, none⟩) len0 len0] 27)) b_l2 27 #[.slice (some ⟨g_3, 0, none⟩) len0 len0] := Blk.new' hbx_l2
  clear hbx_l2
  generalize (w_3.alloc (.cells #[.slice (some ⟨g_3, 0, none⟩) len0 len0] 27)) = w_4 at *
  have j_4 : In w_2.heap.size w_2 w_4 := In.step (by (repeat (first | exact In.refl _ | assumption | apply In.alloc | apply In.drewN | apply In.drew | (refine In.step ?_ (by assumption))))) hb_4
  have k_4_p0 : Blk w_4 (b_p0) 24 #[.slice a0 len0 cap0] := Blk.step (by (with_reducible (repeat (first | assumption | exact Blk.new' (by simp) | apply Blk.drewN | apply Blk.drew | apply Blk.alloc | (refine Blk.far ?_ (by (try simp) <;> omega) _))))) hb_4
  have c_4_p0_0 : w_4.cell? ⟨b_p0, 0, none⟩ = some (.slice a0 len0 cap0) := k_4_p0.cell 0
  have l_4_p0 := k_4_p0.lt
  have k_4_p1 : Blk w_4 (b_p1) 32 #[.int .i64 a1_0, .int .i64 a1_1, .int .i64 a1_2] := Blk.step (by (with_reducible (repeat (first | assumption | exact Blk.new' (by simp) | apply Blk.drewN | apply Blk.drew | apply Blk.alloc | (refine Blk.far ?_ (by (try simp) <;> omega) _))))) hb_4
  have c_4_p1_0 : w_4.cell? ⟨b_p1, 0, none⟩ = some (.int .i64 a1_0) := k_4_p1.cell 0
  have c_4_p1_1 : w_4.cell? ⟨b_p1, 1, none⟩ = some (.int .i64 a1_1) := k_4_p1.cell 1
  have c_4_p1_2 : w_4.cell? ⟨b_p1, 2, none⟩ = some (.int .i64 a1_2) := k_4_p1.cell 2
  have l_4_p1 := k_4_p1.lt
  have k_4_l1 : Blk w_4 (gs_2) 27 #[.slice (some ⟨g_2, 0, none⟩) zs.length c_2] := Blk.step (by (with_reducible (repeat (first | assumption | exact Blk.new' (by simp) | apply Blk.drewN | apply Blk.drew | apply Blk.alloc | (refine Blk.far ?_ (by (try simp) <;> omega) _))))) hb_4
  have c_4_l1_0 : w_4.cell? ⟨gs_2, 0, none⟩ = some (.slice (some ⟨g_2, 0, none⟩) zs.length c_2) := k_4_l1.cell 0
  have l_4_l1 := k_4_l1.lt
  have k_4_l2 : Blk w_4 (b_l2) 27 #[.slice (some ⟨g_3, 0, none⟩) len0 len0] := kk_4
  have c_4_l2_0 : w_4.cell? ⟨b_l2, 0, none⟩ = some (.slice (some ⟨g_3, 0, none⟩) len0 len0) := k_4_l2.cell 0
  have l_4_l2 := k_4_l2.lt
  have o_4_X2 : OwnC w_4 g_3 (len0) len0 (z0.take len0) := OwnC.step (by (with_reducible (repeat (first | assumption | apply OwnC.drewN | apply OwnC.drew | apply OwnC.alloc)))) hb_4
  clear j_3 k_3_p0 c_3_p0_0 l_3_p0 k_3_p1 c_3_p1_0 c_3_p1_1 c_3_p1_2 l_3_p1 k_3_l1 c_3_l1_0 l_3_l1 o_3_X2 hb_3
  clear kk_4
  go_wp2_with fail
  have hBw_4 : w_4.heap.size ≤ w_4.heap.size := Nat.le_refl _
  obtain ⟨B_4, hB_4⟩ : ∃ B, B = w_4.heap.size := ⟨_, rfl⟩
  have hBl_4 : B_4 ≤ w_4.heap.size := by omega
  have hBg_4 : w_4.heap.size ≤ B_4 := by omega
  clear hBw_4 hB_4
  refine wp_region_facts (JITakeForb w_4 a0 len0 cap0 a1_0 a1_1 a1_2 a2 zs fv b_p1 b_p0 ha gs_2 g_3 b_l2) (JFTakeForb B_4 a0 len0 cap0 a1_0 a1_1 a1_2 a2 zs fv b_p1 b_p0 ha gs_2 g_3 b_l2) (by kernel_rfl) (by kernel_rfl) ⟨⟨fun _ => undef, rfl⟩, (In.refl _).drew⟩ ?_ ?_
  · intro a v1 i o ho hI haf
    obtain ⟨⟨f, rfl⟩, hin⟩ := hI
    have kv_p0 : Blk v1 (b_p0) 24 #[.slice a0 len0 cap0] := Blk.step k_4_p0 hin.below
    have cv_p0_0 := kv_p0.cell 0
    have kv_p1 : Blk v1 (b_p1) 32 #[.int .i64 a1_0, .int .i64 a1_1, .int .i64 a1_2] := Blk.step k_4_p1 hin.below
    have cv_p1_0 := kv_p1.cell 0
    have cv_p1_1 := kv_p1.cell 1
    have cv_p1_2 := kv_p1.cell 2
    have kv_l1 : Blk v1 (gs_2) 27 #[.slice (some ⟨g_2, 0, none⟩) zs.length c_2] := Blk.step k_4_l1 hin.below
    have cv_l1_0 := kv_l1.cell 0
    have kv_l2 : Blk v1 (b_l2) 27 #[.slice (some ⟨g_3, 0, none⟩) len0 len0] := Blk.step k_4_l2 hin.below
    have cv_l2_0 := kv_l2.cell 0
    have ov_X2 : OwnC v1 g_3 (len0) len0 (z0.take len0) := OwnC.step o_4_X2 hin.below
    have hi : i < 11 := by
      rcases Nat.lt_or_ge i 11 with h | h
      · exact h
      · simp [h] at ho
    suffices H : ∀ K : Act → World → Prop, (∀ a' w', ((JITakeForb w_4 a0 len0 cap0 a1_0 a1_1 a1_2 a2 zs fv b_p1 b_p0 ha gs_2 g_3 b_l2) a' w' ∧ (JFTakeForb B_4 a0 len0 cap0 a1_0 a1_1 a1_2 a2 zs fv b_p1 b_p0 ha gs_2 g_3 b_l2) i a' w' ∧ ∀ j, j ≠ i → waitsB _ j i = false → (JFTakeForb B_4 a0 len0 cap0 a1_0 a1_1 a1_2 a2 zs fv b_p1 b_p0 ha gs_2 g_3 b_l2) j ⟨#[Value.agg #[Value.slice a0 len0 cap0], Value.agg #[Value.int IntKind.i64 a1_0, Value.int IntKind.i64 a1_1, Value.int IntKind.i64 a1_2], Value.int IntKind.i64 a2, Value.pointer (some { block := b_p0, off := 0 }), Value.pointer (some { block := b_p1, off := 0 }), undef, Value.bool false, Value.int IntKind.i64 (1048576 - ((len0 : Nat) : Int)), Value.pointer (some { block := gs_2, off := 0 }), Value.bool fv, Value.pointer (some { block := b_l2, off := 0 }), f 11, f 12, undef, undef, undef, undef, undef, Value.agg #[Value.slice a0 len0 cap0], Value.int IntKind.i64 1048576, Value.int IntKind.i64 (1048576 - ((len0 : Nat) : Int)), Value.int IntKind.i64 (1048576 - ((len0 : Nat) : Int)), Value.bool (decide (1048576 - ((len0 : Nat) : Int) < 0)), ha 23, ha 24, ha 25, ha 26, ha 27, ha 28, ha 29, ha 30, ha 31, Value.agg #[Value.slice a0 len0 cap0], Value.agg #[Value.slice (some { block := g_3, off := 0 }) len0 len0], f 34, f 35, f 36, f 37, f 38, f 39, f 40, f 41, undef, undef, undef, undef, undef, undef, undef, undef, undef, undef, undef, undef, undef, undef, undef, undef, undef, undef, undef, undef, undef, undef, undef, undef, undef, undef, undef, undef, undef, undef, undef, undef, undef, undef, undef, undef, undef, undef, undef, undef, undef, undef, undef, undef, undef, undef, undef, undef, undef, undef, undef, undef, undef, undef, undef, undef, undef, undef, undef, undef, undef, undef, undef, undef, undef, undef, undef], []⟩ v1 → (JFTakeForb B_4 a0 len0 cap0 a1_0 a1_1 a1_2 a2 zs fv b_p1 b_p0 ha gs_2 g_3 b_l2) j a' w') → K a' w') → wpOp _ _ _ i K ⟨#[Value.agg #[Value.slice a0 len0 cap0], Value.agg #[Value.int IntKind.i64 a1_0, Value.int IntKind.i64 a1_1, Value.int IntKind.i64 a1_2], Value.int IntKind.i64 a2, Value.pointer (some { block := b_p0, off := 0 }), Value.pointer (some { block := b_p1, off := 0 }), undef, Value.bool false, Value.int IntKind.i64 (1048576 - ((len0 : Nat) : Int)), Value.pointer (some { block := gs_2, off := 0 }), Value.bool fv, Value.pointer (some { block := b_l2, off := 0 }), f 11, f 12, undef, undef, undef, undef, undef, Value.agg #[Value.slice a0 len0 cap0], Value.int IntKind.i64 1048576, Value.int IntKind.i64 (1048576 - ((len0 : Nat) : Int)), Value.int IntKind.i64 (1048576 - ((len0 : Nat) : Int)), Value.bool (decide (1048576 - ((len0 : Nat) : Int) < 0)), ha 23, ha 24, ha 25, ha 26, ha 27, ha 28, ha 29, ha 30, ha 31, Value.agg #[Value.slice a0 len0 cap0], Value.agg #[Value.slice (some { block := g_3, off := 0 }) len0 len0], f 34, f 35, f 36, f 37, f 38, f 39, f 40, f 41, undef, undef, undef, undef, undef, undef, undef, undef, undef, undef, undef, undef, undef, undef, undef, undef, undef, undef, undef, undef, undef, undef, undef, undef, undef, undef, undef, undef, undef, undef, undef, undef, undef, undef, undef, undef, undef, undef, undef, undef, undef, undef, undef, undef, undef, undef, undef, undef, undef, undef, undef, undef, undef, undef, undef, undef, undef, undef, undef, undef, undef, undef, undef, undef, undef, undef, undef], []⟩ v1 from H _ fun _ _ h => h
    intro K hK
    rcases (by omega : i = 0 ∨ i = 1 ∨ i = 2 ∨ i = 3 ∨ i = 4 ∨ i = 5 ∨ i = 6 ∨ i = 7 ∨ i = 8 ∨ i = 9 ∨ i = 10) with rfl | rfl | rfl | rfl | rfl | rfl | rfl | rfl | rfl | rfl | rfl
    · obtain rfl := Option.some.inj ho
      refine wpOp_plain rfl rfl ?_
      unfold Oper.wp
      go_simp
      exact hK _ _ ⟨⟨⟨updf f 35 (.agg #[.slice (some ⟨g_3, 0, none⟩) len0 len0]), rfl⟩, hin⟩, rfl, fun j hj hw hf => by
          rcases j with _ | _ | _ | _ | _ | _ | _ | _ | _ | _ | _ | j
          all_goals first | exact absurd rfl hj | exact hf | rfl⟩
    · obtain rfl := Option.some.inj ho
      refine wpOp_plain rfl rfl ?_
      unfold Oper.wp
      go_simp
      exact hK _ _ ⟨⟨⟨updf f 36 (.agg #[.int .i64 a1_0, .int .i64 a1_1, .int .i64 a1_2]), rfl⟩, hin⟩, rfl, fun j hj hw hf => by
          rcases j with _ | _ | _ | _ | _ | _ | _ | _ | _ | _ | _ | j
          all_goals first | exact absurd rfl hj | exact hf | rfl⟩
    · obtain rfl := Option.some.inj ho
      have f1 := haf { on := 1, ground := .data } (by simp) rfl
      have f1 : _ = _ := Option.some.inj f1
      refine wpOp_plain rfl rfl ?_
      unfold Oper.wp
      go_simp
      refine (toDough_c a1_0 a1_1 a1_2 _).mono ?_
      rintro _ v2 ⟨rfl, hb2⟩
      exact hK _ _ ⟨⟨⟨updf f 37 (.agg #[.int .i64 a1_0, .int .i64 a1_1, .int .i64 a1_2]), rfl⟩, hin.step hb2⟩, rfl, fun j hj hw hf => by
          rcases j with _ | _ | _ | _ | _ | _ | _ | _ | _ | _ | _ | j
          all_goals first | exact absurd rfl hj | exact hf | rfl | (obtain ⟨g, c, h0, h1, h2⟩ := hf; exact ⟨g, c, h0, h1, h2.step hb2⟩) | (obtain ⟨g, h0, h1, h2⟩ := hf; exact ⟨g, h0, h1, h2.step hb2⟩) | (obtain ⟨gs, X, h0, h1, h2⟩ := hf; exact ⟨gs, X, h0, h1, h2.step hb2⟩) | (obtain ⟨gs, g, c, h0, h1, h2, h3, h4⟩ := hf; exact ⟨gs, g, c, h0, h1, h2.step hb2, h3, h4.step hb2⟩)⟩
    · obtain rfl := Option.some.inj ho
      refine wpOp_plain rfl rfl ?_
      unfold Oper.wp
      go_simp
      exact hK _ _ ⟨⟨⟨updf f 38 (.int .i64 a2), rfl⟩, hin⟩, rfl, fun j hj hw hf => by
          rcases j with _ | _ | _ | _ | _ | _ | _ | _ | _ | _ | _ | j
          all_goals first | exact absurd rfl hj | exact hf | rfl⟩
    · obtain rfl := Option.some.inj ho
      have f0 := haf { on := 0, ground := .data } (by simp) rfl
      have f0 : _ = _ := Option.some.inj f0
      have f2 := haf { on := 2, ground := .data } (by simp) rfl
      have f2 : _ = _ := Option.some.inj f2
      have f3 := haf { on := 3, ground := .data } (by simp) rfl
      have f3 : _ = _ := Option.some.inj f3
      refine wpOp_plain rfl rfl ?_
      unfold Oper.wp
      go_simp
      refine (HiC.out ⟨g_3, 0, none⟩ (len0) _ (ov_X2.reads)).mono ?_
      rintro _ v2 ⟨g2, c2, rfl, ho2, hg2, hb2⟩
      exact hK _ _ ⟨⟨⟨updf f 39 (.tuple #[.agg #[.slice (some ⟨g2, 0, none⟩) zs.length c2], .bool fv]), rfl⟩, hin.step hb2⟩, ⟨g2, c2, Nat.le_trans (Nat.le_trans hBl_4 hin.size) hg2, rfl, ho2⟩, fun j hj hw hf => by
          rcases j with _ | _ | _ | _ | _ | _ | _ | _ | _ | _ | _ | j
          all_goals first | exact absurd rfl hj | exact hf | rfl | (obtain ⟨g, c, h0, h1, h2⟩ := hf; exact ⟨g, c, h0, h1, h2.step hb2⟩) | (obtain ⟨g, h0, h1, h2⟩ := hf; exact ⟨g, h0, h1, h2.step hb2⟩) | (obtain ⟨gs, X, h0, h1, h2⟩ := hf; exact ⟨gs, X, h0, h1, h2.step hb2⟩) | (obtain ⟨gs, g, c, h0, h1, h2, h3, h4⟩ := hf; exact ⟨gs, g, c, h0, h1, h2.step hb2, h3, h4.step hb2⟩)⟩
    · obtain rfl := Option.some.inj ho
      obtain ⟨g_4, c_4, hb4, f4, ho4⟩ := haf { on := 4, ground := .data } (by simp) rfl
      have f4 : _ = _ := Option.some.inj f4
      refine wpOp_plain rfl rfl ?_
      unfold Oper.wp
      go_simp
      exact hK _ _ ⟨⟨⟨updf f 34 (.tuple #[.agg #[.slice (some ⟨g_4, 0, none⟩) zs.length c_4], .bool fv]), rfl⟩, hin⟩, ⟨g_4, c_4, hb4, rfl, ho4⟩, fun j hj hw hf => by
          rcases j with _ | _ | _ | _ | _ | _ | _ | _ | _ | _ | _ | j
          all_goals first | exact absurd rfl hj | exact hf | rfl⟩
    · obtain rfl := Option.some.inj ho
      obtain ⟨g_5, c_5, hb5, f5, ho5⟩ := haf { on := 5, ground := .data } (by simp) rfl
      have f5 : _ = _ := Option.some.inj f5
      refine wpOp_plain rfl rfl ?_
      unfold Oper.wp
      go_simp
      exact hK _ _ ⟨⟨⟨updf f 40 (.agg #[.slice (some ⟨g_5, 0, none⟩) zs.length c_5]), rfl⟩, hin⟩, ⟨g_5, c_5, hb5, rfl, ho5⟩, fun j hj hw hf => by
          rcases j with _ | _ | _ | _ | _ | _ | _ | _ | _ | _ | _ | j
          all_goals first | exact absurd rfl hj | exact hf | rfl⟩
    · obtain rfl := Option.some.inj ho
      obtain ⟨g_5, c_5, hb5, f5, ho5⟩ := haf { on := 5, ground := .data } (by simp) rfl
      have f5 : _ = _ := Option.some.inj f5
      refine wpOp_plain rfl rfl ?_
      unfold Oper.wp
      go_simp
      exact hK _ _ ⟨⟨⟨updf f 41 (.bool fv), rfl⟩, hin⟩, rfl, fun j hj hw hf => by
          rcases j with _ | _ | _ | _ | _ | _ | _ | _ | _ | _ | _ | j
          all_goals first | exact absurd rfl hj | exact hf | rfl⟩
    · obtain rfl := Option.some.inj ho
      refine wpOp_plain rfl rfl ?_
      unfold Oper.wp
      go_simp
      exact hK _ _ ⟨⟨⟨updf f 11 (.pointer (some ⟨v1.heap.size, 0, none⟩)), rfl⟩, hin.alloc _⟩, ⟨v1.heap.size, _, Nat.le_trans hBl_4 hin.size, rfl, Blk.new v1 _ _⟩, fun j hj hw hf => by
          rcases j with _ | _ | _ | _ | _ | _ | _ | _ | _ | _ | _ | j
          all_goals first | exact absurd rfl hj | exact hf | rfl | (obtain ⟨g, c, h0, h1, h2⟩ := hf; exact ⟨g, c, h0, h1, h2.step ((Below.refl _ v1).alloc (Nat.le_refl _) _)⟩) | (obtain ⟨g, h0, h1, h2⟩ := hf; exact ⟨g, h0, h1, h2.step ((Below.refl _ v1).alloc (Nat.le_refl _) _)⟩) | (obtain ⟨gs, X, h0, h1, h2⟩ := hf; exact ⟨gs, X, h0, h1, h2.step ((Below.refl _ v1).alloc (Nat.le_refl _) _)⟩) | (obtain ⟨gs, g, c, h0, h1, h2, h3, h4⟩ := hf; exact ⟨gs, g, c, h0, h1, h2.step ((Below.refl _ v1).alloc (Nat.le_refl _) _), h3, h4.step ((Below.refl _ v1).alloc (Nat.le_refl _) _)⟩) | exact absurd (hw.symm.trans (show waitsB _ _ _ = true by kernel_rfl)) (by decide)⟩
    · obtain rfl := Option.some.inj ho
      obtain ⟨g_6, c_6, hb6, f6, ho6⟩ := haf { on := 6, ground := .data } (by simp) rfl
      have f6 : _ = _ := Option.some.inj f6
      obtain ⟨gs, X, hgB, hsl, hbk⟩ := haf { on := 8, ground := .data } (by simp) rfl
      have hsl : _ = _ := Option.some.inj hsl
      have z0 := hbk.cell 0
      have y0 := hbk.frozen 0
      have hgw := Nat.le_trans hBg_4 hgB
      have hb2 : Below w_4.heap.size v1 (v1.setCell ⟨gs, 0, none⟩ (.slice (some ⟨g_6, 0, none⟩) zs.length c_6)) := (Below.refl _ _).setCell hgw _
      have hgr : v1.grownBy (v1.setCell ⟨gs, 0, none⟩ (.slice (some ⟨g_6, 0, none⟩) zs.length c_6)) (some gs) := only_set _ _
      have HBK : Blk (v1.setCell ⟨gs, 0, none⟩ (.slice (some ⟨g_6, 0, none⟩) zs.length c_6)) gs 27 #[.slice (some ⟨g_6, 0, none⟩) zs.length c_6] := hbk.set_ 0 _
      refine wpOp_plain rfl rfl ?_
      unfold Oper.wp
      go_simp
      exact hK _ _ ⟨⟨⟨f, rfl⟩, hin.wide hb2⟩, ⟨gs, g_6, c_6, hgB, congrArg some hsl, HBK, hb6, ho6.far hbk (by decide) hgr⟩, fun j hj hw hf => by
          rcases j with _ | _ | _ | _ | _ | _ | _ | _ | _ | _ | _ | j
          all_goals first | exact absurd rfl hj | exact hf | rfl | exact ⟨gs, _, hgB, congrArg some hsl, HBK⟩ | (obtain ⟨g, c, h0, h1, h2⟩ := hf; exact ⟨g, c, h0, h1, h2.far hbk (by decide) hgr⟩) | (obtain ⟨g, h0, h1, h2⟩ := hf; exact ⟨g, h0, h1, h2.far hbk (by decide) hgr⟩)⟩
    · obtain rfl := Option.some.inj ho
      have f7 := haf { on := 7, ground := .data } (by simp) rfl
      have f7 : _ = _ := Option.some.inj f7
      refine wpOp_plain rfl rfl ?_
      unfold Oper.wp
      go_simp
      exact hK _ _ ⟨⟨⟨updf f 12 (.bool fv), rfl⟩, hin⟩, rfl, fun j hj hw hf => by
          rcases j with _ | _ | _ | _ | _ | _ | _ | _ | _ | _ | _ | j
          all_goals first | exact absurd rfl hj | exact hf | rfl⟩
  intro a w_5 hI hF
  obtain ⟨⟨hb, rfl⟩, hn_5⟩ := hI
  have hb_5 := hn_5.below
  obtain ⟨gs_5, g_5, c_5, hgs_5, hs_5, kk_5, hg_5, ho_5⟩ := hF 9 (by decide)
  have hs_5 : hb 11 = _ := Option.some.inj hs_5
  have he_5_12 : hb 12 = _ := Option.some.inj (hF 10 (by decide))
  clear hF
  rw [hs_5, he_5_12]
  clear hs_5 he_5_12
  have NE_X2_X3 : Hid (g_3 ≠ g_5) := Lib.hid (by have h1 := (Nat.le_trans hBg_4 hg_5); (try simp at h1); have h2 := OwnC.lt o_4_X2; omega)
  have GX_X3 : Hid (w_2.heap.size ≤ g_5) := Lib.hid (by have h1 := (Nat.le_trans hBg_4 hg_5); (try simp at h1); have h2 := In.size j_4; omega)
  have o_5_X3 : OwnC w_5 g_5 (zs.length) c_5 zs := ho_5
  clear ho_5 hg_5
  have kb_5 : Blk w_5 (gs_5) 27 #[.slice (some ⟨g_5, 0, none⟩) zs.length c_5] := kk_5
  clear kk_5
  have j_5 : In w_2.heap.size w_2 w_5 := In.step (by (repeat (first | exact In.refl _ | assumption | apply In.alloc | apply In.drewN | apply In.drew | (refine In.step ?_ (by assumption))))) hb_5
  have k_5_p0 : Blk w_5 (b_p0) 24 #[.slice a0 len0 cap0] := Blk.step (by (with_reducible (repeat (first | assumption | exact Blk.new' (by simp) | apply Blk.drewN | apply Blk.drew | apply Blk.alloc | (refine Blk.far ?_ (by (try simp) <;> omega) _))))) hb_5
  have c_5_p0_0 : w_5.cell? ⟨b_p0, 0, none⟩ = some (.slice a0 len0 cap0) := k_5_p0.cell 0
  have l_5_p0 := k_5_p0.lt
  have k_5_p1 : Blk w_5 (b_p1) 32 #[.int .i64 a1_0, .int .i64 a1_1, .int .i64 a1_2] := Blk.step (by (with_reducible (repeat (first | assumption | exact Blk.new' (by simp) | apply Blk.drewN | apply Blk.drew | apply Blk.alloc | (refine Blk.far ?_ (by (try simp) <;> omega) _))))) hb_5
  have c_5_p1_0 : w_5.cell? ⟨b_p1, 0, none⟩ = some (.int .i64 a1_0) := k_5_p1.cell 0
  have c_5_p1_1 : w_5.cell? ⟨b_p1, 1, none⟩ = some (.int .i64 a1_1) := k_5_p1.cell 1
  have c_5_p1_2 : w_5.cell? ⟨b_p1, 2, none⟩ = some (.int .i64 a1_2) := k_5_p1.cell 2
  have l_5_p1 := k_5_p1.lt
  have k_5_l1 : Blk w_5 (gs_2) 27 #[.slice (some ⟨g_2, 0, none⟩) zs.length c_2] := Blk.step (by (with_reducible (repeat (first | assumption | exact Blk.new' (by simp) | apply Blk.drewN | apply Blk.drew | apply Blk.alloc | (refine Blk.far ?_ (by (try simp) <;> omega) _))))) hb_5
  have c_5_l1_0 : w_5.cell? ⟨gs_2, 0, none⟩ = some (.slice (some ⟨g_2, 0, none⟩) zs.length c_2) := k_5_l1.cell 0
  have l_5_l1 := k_5_l1.lt
  have k_5_l2 : Blk w_5 (b_l2) 27 #[.slice (some ⟨g_3, 0, none⟩) len0 len0] := Blk.step (by (with_reducible (repeat (first | assumption | exact Blk.new' (by simp) | apply Blk.drewN | apply Blk.drew | apply Blk.alloc | (refine Blk.far ?_ (by (try simp) <;> omega) _))))) hb_5
  have c_5_l2_0 : w_5.cell? ⟨b_l2, 0, none⟩ = some (.slice (some ⟨g_3, 0, none⟩) len0 len0) := k_5_l2.cell 0
  have l_5_l2 := k_5_l2.lt
  have o_5_X2 : OwnC w_5 g_3 (len0) len0 (z0.take len0) := OwnC.step (by (with_reducible (repeat (first | assumption | apply OwnC.drewN | apply OwnC.drew | apply OwnC.alloc)))) hb_5
  clear j_4 k_4_p0 c_4_p0_0 l_4_p0 k_4_p1 c_4_p1_0 c_4_p1_1 c_4_p1_2 l_4_p1 k_4_l1 c_4_l1_0 l_4_l1 k_4_l2 c_4_l2_0 l_4_l2 o_4_X2 hb_4
  have k_5_l3 : Blk w_5 (gs_5) 27 #[.slice (some ⟨g_5, 0, none⟩) zs.length c_5] := kb_5
  have c_5_l3_0 : w_5.cell? ⟨gs_5, 0, none⟩ = some (.slice (some ⟨g_5, 0, none⟩) zs.length c_5) := k_5_l3.cell 0
  clear kb_5 hn_5 hgs_5
  clear hBl_4 hBg_4
  go_wp2_with fail
  refine (eqStock_c (some ⟨g_5, 0, none⟩) (some ⟨g_2, 0, none⟩) (zs.length) c_5 c_2 zs _ (by (try unfold maxLen); omega) (by exact OwnC.reads (by (with_reducible (repeat (first | assumption | apply OwnC.drewN | apply OwnC.drew | apply OwnC.alloc))))) (by exact HW.out.below (In.below (by (repeat (first | exact In.refl _ | assumption | apply In.alloc | apply In.drewN | apply In.drew | (refine In.step ?_ (by assumption)))))) (Nat.le_refl _))).mono ?_
  rintro _ w_6 ⟨rfl, hb_6⟩
  have j_6 : In w_2.heap.size w_2 w_6 := In.step (by (repeat (first | exact In.refl _ | assumption | apply In.alloc | apply In.drewN | apply In.drew | (refine In.step ?_ (by assumption))))) hb_6
  have k_6_p0 : Blk w_6 (b_p0) 24 #[.slice a0 len0 cap0] := Blk.step (by (with_reducible (repeat (first | assumption | exact Blk.new' (by simp) | apply Blk.drewN | apply Blk.drew | apply Blk.alloc | (refine Blk.far ?_ (by (try simp) <;> omega) _))))) hb_6
  have c_6_p0_0 : w_6.cell? ⟨b_p0, 0, none⟩ = some (.slice a0 len0 cap0) := k_6_p0.cell 0
  have l_6_p0 := k_6_p0.lt
  have k_6_p1 : Blk w_6 (b_p1) 32 #[.int .i64 a1_0, .int .i64 a1_1, .int .i64 a1_2] := Blk.step (by (with_reducible (repeat (first | assumption | exact Blk.new' (by simp) | apply Blk.drewN | apply Blk.drew | apply Blk.alloc | (refine Blk.far ?_ (by (try simp) <;> omega) _))))) hb_6
  have c_6_p1_0 : w_6.cell? ⟨b_p1, 0, none⟩ = some (.int .i64 a1_0) := k_6_p1.cell 0
  have c_6_p1_1 : w_6.cell? ⟨b_p1, 1, none⟩ = some (.int .i64 a1_1) := k_6_p1.cell 1
  have c_6_p1_2 : w_6.cell? ⟨b_p1, 2, none⟩ = some (.int .i64 a1_2) := k_6_p1.cell 2
  have l_6_p1 := k_6_p1.lt
  have k_6_l1 : Blk w_6 (gs_2) 27 #[.slice (some ⟨g_2, 0, none⟩) zs.length c_2] := Blk.step (by (with_reducible (repeat (first | assumption | exact Blk.new' (by simp) | apply Blk.drewN | apply Blk.drew | apply Blk.alloc | (refine Blk.far ?_ (by (try simp) <;> omega) _))))) hb_6
  have c_6_l1_0 : w_6.cell? ⟨gs_2, 0, none⟩ = some (.slice (some ⟨g_2, 0, none⟩) zs.length c_2) := k_6_l1.cell 0
  have l_6_l1 := k_6_l1.lt
  have k_6_l2 : Blk w_6 (b_l2) 27 #[.slice (some ⟨g_3, 0, none⟩) len0 len0] := Blk.step (by (with_reducible (repeat (first | assumption | exact Blk.new' (by simp) | apply Blk.drewN | apply Blk.drew | apply Blk.alloc | (refine Blk.far ?_ (by (try simp) <;> omega) _))))) hb_6
  have c_6_l2_0 : w_6.cell? ⟨b_l2, 0, none⟩ = some (.slice (some ⟨g_3, 0, none⟩) len0 len0) := k_6_l2.cell 0
  have l_6_l2 := k_6_l2.lt
  have k_6_l3 : Blk w_6 (gs_5) 27 #[.slice (some ⟨g_5, 0, none⟩) zs.length c_5] := Blk.step (by (with_reducible (repeat (first | assumption | exact Blk.new' (by simp) | apply Blk.drewN | apply Blk.drew | apply Blk.alloc | (refine Blk.far ?_ (by (try simp) <;> omega) _))))) hb_6
  have c_6_l3_0 : w_6.cell? ⟨gs_5, 0, none⟩ = some (.slice (some ⟨g_5, 0, none⟩) zs.length c_5) := k_6_l3.cell 0
  have l_6_l3 := k_6_l3.lt
  have o_6_X2 : OwnC w_6 g_3 (len0) len0 (z0.take len0) := OwnC.step (by (with_reducible (repeat (first | assumption | apply OwnC.drewN | apply OwnC.drew | apply OwnC.alloc)))) hb_6
  have o_6_X3 : OwnC w_6 g_5 (zs.length) c_5 zs := OwnC.step (by (with_reducible (repeat (first | assumption | apply OwnC.drewN | apply OwnC.drew | apply OwnC.alloc)))) hb_6
  clear j_5 k_5_p0 c_5_p0_0 l_5_p0 k_5_p1 c_5_p1_0 c_5_p1_1 c_5_p1_2 l_5_p1 k_5_l1 c_5_l1_0 l_5_l1 k_5_l2 c_5_l2_0 l_5_l2 o_5_X2 o_5_X3 hb_5 k_5_l3 c_5_l3_0
  go_wp2_with fail
  have hBw_6 : w_6.heap.size ≤ w_6.heap.size := Nat.le_refl _
  obtain ⟨B_6, hB_6⟩ : ∃ B, B = w_6.heap.size := ⟨_, rfl⟩
  have hBl_6 : B_6 ≤ w_6.heap.size := by omega
  have hBg_6 : w_6.heap.size ≤ B_6 := by omega
  clear hBw_6 hB_6
  refine wp_region_facts (JITakeForc w_6 a0 len0 cap0 z0 a1_0 a1_1 a1_2 a2 zs fv b_p1 b_p0 ha gs_2 g_2 c_2 g_3 b_l2 hb gs_5 g_5 c_5) (JFTakeForc B_6 a0 len0 cap0 z0 a1_0 a1_1 a1_2 a2 zs fv b_p1 b_p0 ha gs_2 g_2 c_2 g_3 b_l2 hb gs_5 g_5 c_5) (by kernel_rfl) (by kernel_rfl) ⟨⟨fun _ => undef, rfl⟩, (In.refl _).drew⟩ ?_ ?_
  · intro a v1 i o ho hI haf
    obtain ⟨⟨f, rfl⟩, hin⟩ := hI
    have kv_p0 : Blk v1 (b_p0) 24 #[.slice a0 len0 cap0] := Blk.step k_6_p0 hin.below
    have cv_p0_0 := kv_p0.cell 0
    have kv_p1 : Blk v1 (b_p1) 32 #[.int .i64 a1_0, .int .i64 a1_1, .int .i64 a1_2] := Blk.step k_6_p1 hin.below
    have cv_p1_0 := kv_p1.cell 0
    have cv_p1_1 := kv_p1.cell 1
    have cv_p1_2 := kv_p1.cell 2
    have kv_l1 : Blk v1 (gs_2) 27 #[.slice (some ⟨g_2, 0, none⟩) zs.length c_2] := Blk.step k_6_l1 hin.below
    have cv_l1_0 := kv_l1.cell 0
    have kv_l2 : Blk v1 (b_l2) 27 #[.slice (some ⟨g_3, 0, none⟩) len0 len0] := Blk.step k_6_l2 hin.below
    have cv_l2_0 := kv_l2.cell 0
    have kv_l3 : Blk v1 (gs_5) 27 #[.slice (some ⟨g_5, 0, none⟩) zs.length c_5] := Blk.step k_6_l3 hin.below
    have cv_l3_0 := kv_l3.cell 0
    have ov_X2 : OwnC v1 g_3 (len0) len0 (z0.take len0) := OwnC.step o_6_X2 hin.below
    have ov_X3 : OwnC v1 g_5 (zs.length) c_5 zs := OwnC.step o_6_X3 hin.below
    have hi : i < 5 := by
      rcases Nat.lt_or_ge i 5 with h | h
      · exact h
      · simp [h] at ho
    suffices H : ∀ K : Act → World → Prop, (∀ a' w', ((JITakeForc w_6 a0 len0 cap0 z0 a1_0 a1_1 a1_2 a2 zs fv b_p1 b_p0 ha gs_2 g_2 c_2 g_3 b_l2 hb gs_5 g_5 c_5) a' w' ∧ (JFTakeForc B_6 a0 len0 cap0 z0 a1_0 a1_1 a1_2 a2 zs fv b_p1 b_p0 ha gs_2 g_2 c_2 g_3 b_l2 hb gs_5 g_5 c_5) i a' w' ∧ ∀ j, j ≠ i → waitsB _ j i = false → (JFTakeForc B_6 a0 len0 cap0 z0 a1_0 a1_1 a1_2 a2 zs fv b_p1 b_p0 ha gs_2 g_2 c_2 g_3 b_l2 hb gs_5 g_5 c_5) j ⟨#[Value.agg #[Value.slice a0 len0 cap0], Value.agg #[Value.int IntKind.i64 a1_0, Value.int IntKind.i64 a1_1, Value.int IntKind.i64 a1_2], Value.int IntKind.i64 a2, Value.pointer (some { block := b_p0, off := 0 }), Value.pointer (some { block := b_p1, off := 0 }), undef, Value.bool false, Value.int IntKind.i64 (1048576 - ((len0 : Nat) : Int)), Value.pointer (some { block := gs_2, off := 0 }), Value.bool fv, Value.pointer (some { block := b_l2, off := 0 }), Value.pointer (some { block := gs_5, off := 0 }), Value.bool fv, undef, undef, undef, undef, undef, Value.agg #[Value.slice a0 len0 cap0], Value.int IntKind.i64 1048576, Value.int IntKind.i64 (1048576 - ((len0 : Nat) : Int)), Value.int IntKind.i64 (1048576 - ((len0 : Nat) : Int)), Value.bool (decide (1048576 - ((len0 : Nat) : Int) < 0)), ha 23, ha 24, ha 25, ha 26, ha 27, ha 28, ha 29, ha 30, ha 31, Value.agg #[Value.slice a0 len0 cap0], Value.agg #[Value.slice (some { block := g_3, off := 0 }) len0 len0], hb 34, hb 35, hb 36, hb 37, hb 38, hb 39, hb 40, hb 41, Value.agg #[Value.slice (some { block := g_5, off := 0 }) zs.length c_5], Value.agg #[Value.slice (some { block := g_2, off := 0 }) zs.length c_2], Value.bool true, Value.bool false, Value.bool false, Value.bool fv, Value.bool fv, Value.bool false, Value.bool false, f 51, f 52, f 53, f 54, f 55, undef, undef, undef, undef, undef, undef, undef, undef, undef, undef, undef, undef, undef, undef, undef, undef, undef, undef, undef, undef, undef, undef, undef, undef, undef, undef, undef, undef, undef, undef, undef, undef, undef, undef, undef, undef, undef, undef, undef, undef, undef, undef, undef, undef, undef, undef, undef, undef, undef, undef, undef, undef, undef], []⟩ v1 → (JFTakeForc B_6 a0 len0 cap0 z0 a1_0 a1_1 a1_2 a2 zs fv b_p1 b_p0 ha gs_2 g_2 c_2 g_3 b_l2 hb gs_5 g_5 c_5) j a' w') → K a' w') → wpOp _ _ _ i K ⟨#[Value.agg #[Value.slice a0 len0 cap0], Value.agg #[Value.int IntKind.i64 a1_0, Value.int IntKind.i64 a1_1, Value.int IntKind.i64 a1_2], Value.int IntKind.i64 a2, Value.pointer (some { block := b_p0, off := 0 }), Value.pointer (some { block := b_p1, off := 0 }), undef, Value.bool false, Value.int IntKind.i64 (1048576 - ((len0 : Nat) : Int)), Value.pointer (some { block := gs_2, off := 0 }), Value.bool fv, Value.pointer (some { block := b_l2, off := 0 }), Value.pointer (some { block := gs_5, off := 0 }), Value.bool fv, undef, undef, undef, undef, undef, Value.agg #[Value.slice a0 len0 cap0], Value.int IntKind.i64 1048576, Value.int IntKind.i64 (1048576 - ((len0 : Nat) : Int)), Value.int IntKind.i64 (1048576 - ((len0 : Nat) : Int)), Value.bool (decide (1048576 - ((len0 : Nat) : Int) < 0)), ha 23, ha 24, ha 25, ha 26, ha 27, ha 28, ha 29, ha 30, ha 31, Value.agg #[Value.slice a0 len0 cap0], Value.agg #[Value.slice (some { block := g_3, off := 0 }) len0 len0], hb 34, hb 35, hb 36, hb 37, hb 38, hb 39, hb 40, hb 41, Value.agg #[Value.slice (some { block := g_5, off := 0 }) zs.length c_5], Value.agg #[Value.slice (some { block := g_2, off := 0 }) zs.length c_2], Value.bool true, Value.bool false, Value.bool false, Value.bool fv, Value.bool fv, Value.bool false, Value.bool false, f 51, f 52, f 53, f 54, f 55, undef, undef, undef, undef, undef, undef, undef, undef, undef, undef, undef, undef, undef, undef, undef, undef, undef, undef, undef, undef, undef, undef, undef, undef, undef, undef, undef, undef, undef, undef, undef, undef, undef, undef, undef, undef, undef, undef, undef, undef, undef, undef, undef, undef, undef, undef, undef, undef, undef, undef, undef, undef, undef], []⟩ v1 from H _ fun _ _ h => h
    intro K hK
    rcases (by omega : i = 0 ∨ i = 1 ∨ i = 2 ∨ i = 3 ∨ i = 4) with rfl | rfl | rfl | rfl | rfl
    · obtain rfl := Option.some.inj ho
      refine wpOp_plain rfl rfl ?_
      unfold Oper.wp
      go_simp
      exact hK _ _ ⟨⟨⟨updf f 51 (.agg #[.slice (some ⟨g_3, 0, none⟩) len0 len0]), rfl⟩, hin⟩, rfl, fun j hj hw hf => by
          rcases j with _ | _ | _ | _ | _ | j
          all_goals first | exact absurd rfl hj | exact hf | rfl⟩
    · obtain rfl := Option.some.inj ho
      refine wpOp_plain rfl rfl ?_
      unfold Oper.wp
      go_simp
      exact hK _ _ ⟨⟨⟨updf f 52 (.agg #[.slice a0 len0 cap0]), rfl⟩, hin⟩, rfl, fun j hj hw hf => by
          rcases j with _ | _ | _ | _ | _ | j
          all_goals first | exact absurd rfl hj | exact hf | rfl⟩
    · obtain rfl := Option.some.inj ho
      have f1 := haf { on := 1, ground := .data } (by simp) rfl
      have f1 : _ = _ := Option.some.inj f1
      refine wpOp_plain rfl rfl ?_
      unfold Oper.wp
      go_simp
      refine (toStock_c a0 len0 cap0 (z0.take len0) _ (by omega) (R0.out.below ((IC.out.trans j_6).trans hin).below (Nat.le_refl _))).mono ?_
      rintro _ v2 ⟨g2, rfl, ho2, hg2, hb2⟩
      exact hK _ _ ⟨⟨⟨updf f 53 (.agg #[.slice (some ⟨g2, 0, none⟩) len0 len0]), rfl⟩, hin.step hb2⟩, ⟨g2, Nat.le_trans (Nat.le_trans hBl_6 hin.size) hg2, rfl, ho2⟩, fun j hj hw hf => by
          rcases j with _ | _ | _ | _ | _ | j
          all_goals first | exact absurd rfl hj | exact hf | rfl | (obtain ⟨g, c, h0, h1, h2⟩ := hf; exact ⟨g, c, h0, h1, h2.step hb2⟩) | (obtain ⟨g, h0, h1, h2⟩ := hf; exact ⟨g, h0, h1, h2.step hb2⟩) | (obtain ⟨gs, X, h0, h1, h2⟩ := hf; exact ⟨gs, X, h0, h1, h2.step hb2⟩) | (obtain ⟨gs, g, c, h0, h1, h2, h3, h4⟩ := hf; exact ⟨gs, g, c, h0, h1, h2.step hb2, h3, h4.step hb2⟩)⟩
    · obtain rfl := Option.some.inj ho
      have f0 := haf { on := 0, ground := .data } (by simp) rfl
      have f0 : _ = _ := Option.some.inj f0
      obtain ⟨g_2, hb2, f2, ho2⟩ := haf { on := 2, ground := .data } (by simp) rfl
      have f2 : _ = _ := Option.some.inj f2
      refine wpOp_plain rfl rfl ?_
      unfold Oper.wp
      go_simp
      refine (eqStock_c (some ⟨g_3, 0, none⟩) (some ⟨g_2, 0, none⟩) (len0) len0 len0 (z0.take len0) _ (by (try unfold maxLen); omega) (ov_X2.reads) (ho2.reads)).mono ?_
      rintro _ v2 ⟨rfl, hb2⟩
      exact hK _ _ ⟨⟨⟨updf f 54 (.bool true), rfl⟩, hin.step hb2⟩, rfl, fun j hj hw hf => by
          rcases j with _ | _ | _ | _ | _ | j
          all_goals first | exact absurd rfl hj | exact hf | rfl | (obtain ⟨g, c, h0, h1, h2⟩ := hf; exact ⟨g, c, h0, h1, h2.step hb2⟩) | (obtain ⟨g, h0, h1, h2⟩ := hf; exact ⟨g, h0, h1, h2.step hb2⟩) | (obtain ⟨gs, X, h0, h1, h2⟩ := hf; exact ⟨gs, X, h0, h1, h2.step hb2⟩) | (obtain ⟨gs, g, c, h0, h1, h2, h3, h4⟩ := hf; exact ⟨gs, g, c, h0, h1, h2.step hb2, h3, h4.step hb2⟩)⟩
    · obtain rfl := Option.some.inj ho
      have f3 := haf { on := 3, ground := .data } (by simp) rfl
      have f3 : _ = _ := Option.some.inj f3
      refine wpOp_plain rfl rfl ?_
      unfold Oper.wp
      go_simp
      exact hK _ _ ⟨⟨⟨updf f 55 (.bool false), rfl⟩, hin⟩, rfl, fun j hj hw hf => by
          rcases j with _ | _ | _ | _ | _ | j
          all_goals first | exact absurd rfl hj | exact hf | rfl⟩
  intro a w_7 hI hF
  obtain ⟨⟨hc, rfl⟩, hn_7⟩ := hI
  have hb_7 := hn_7.below
  have he_7_55 : hc 55 = _ := Option.some.inj (hF 4 (by decide))
  clear hF
  rw [he_7_55]
  clear he_7_55
  have j_7 : In w_2.heap.size w_2 w_7 := In.step (by (repeat (first | exact In.refl _ | assumption | apply In.alloc | apply In.drewN | apply In.drew | (refine In.step ?_ (by assumption))))) hb_7
  have k_7_p0 : Blk w_7 (b_p0) 24 #[.slice a0 len0 cap0] := Blk.step (by (with_reducible (repeat (first | assumption | exact Blk.new' (by simp) | apply Blk.drewN | apply Blk.drew | apply Blk.alloc | (refine Blk.far ?_ (by (try simp) <;> omega) _))))) hb_7
  have c_7_p0_0 : w_7.cell? ⟨b_p0, 0, none⟩ = some (.slice a0 len0 cap0) := k_7_p0.cell 0
  have l_7_p0 := k_7_p0.lt
  have k_7_p1 : Blk w_7 (b_p1) 32 #[.int .i64 a1_0, .int .i64 a1_1, .int .i64 a1_2] := Blk.step (by (with_reducible (repeat (first | assumption | exact Blk.new' (by simp) | apply Blk.drewN | apply Blk.drew | apply Blk.alloc | (refine Blk.far ?_ (by (try simp) <;> omega) _))))) hb_7
  have c_7_p1_0 : w_7.cell? ⟨b_p1, 0, none⟩ = some (.int .i64 a1_0) := k_7_p1.cell 0
  have c_7_p1_1 : w_7.cell? ⟨b_p1, 1, none⟩ = some (.int .i64 a1_1) := k_7_p1.cell 1
  have c_7_p1_2 : w_7.cell? ⟨b_p1, 2, none⟩ = some (.int .i64 a1_2) := k_7_p1.cell 2
  have l_7_p1 := k_7_p1.lt
  have k_7_l1 : Blk w_7 (gs_2) 27 #[.slice (some ⟨g_2, 0, none⟩) zs.length c_2] := Blk.step (by (with_reducible (repeat (first | assumption | exact Blk.new' (by simp) | apply Blk.drewN | apply Blk.drew | apply Blk.alloc | (refine Blk.far ?_ (by (try simp) <;> omega) _))))) hb_7
  have c_7_l1_0 : w_7.cell? ⟨gs_2, 0, none⟩ = some (.slice (some ⟨g_2, 0, none⟩) zs.length c_2) := k_7_l1.cell 0
  have l_7_l1 := k_7_l1.lt
  have k_7_l2 : Blk w_7 (b_l2) 27 #[.slice (some ⟨g_3, 0, none⟩) len0 len0] := Blk.step (by (with_reducible (repeat (first | assumption | exact Blk.new' (by simp) | apply Blk.drewN | apply Blk.drew | apply Blk.alloc | (refine Blk.far ?_ (by (try simp) <;> omega) _))))) hb_7
  have c_7_l2_0 : w_7.cell? ⟨b_l2, 0, none⟩ = some (.slice (some ⟨g_3, 0, none⟩) len0 len0) := k_7_l2.cell 0
  have l_7_l2 := k_7_l2.lt
  have k_7_l3 : Blk w_7 (gs_5) 27 #[.slice (some ⟨g_5, 0, none⟩) zs.length c_5] := Blk.step (by (with_reducible (repeat (first | assumption | exact Blk.new' (by simp) | apply Blk.drewN | apply Blk.drew | apply Blk.alloc | (refine Blk.far ?_ (by (try simp) <;> omega) _))))) hb_7
  have c_7_l3_0 : w_7.cell? ⟨gs_5, 0, none⟩ = some (.slice (some ⟨g_5, 0, none⟩) zs.length c_5) := k_7_l3.cell 0
  have l_7_l3 := k_7_l3.lt
  have o_7_X2 : OwnC w_7 g_3 (len0) len0 (z0.take len0) := OwnC.step (by (with_reducible (repeat (first | assumption | apply OwnC.drewN | apply OwnC.drew | apply OwnC.alloc)))) hb_7
  have o_7_X3 : OwnC w_7 g_5 (zs.length) c_5 zs := OwnC.step (by (with_reducible (repeat (first | assumption | apply OwnC.drewN | apply OwnC.drew | apply OwnC.alloc)))) hb_7
  clear j_6 k_6_p0 c_6_p0_0 l_6_p0 k_6_p1 c_6_p1_0 c_6_p1_1 c_6_p1_2 l_6_p1 k_6_l1 c_6_l1_0 l_6_l1 k_6_l2 c_6_l2_0 l_6_l2 k_6_l3 c_6_l3_0 l_6_l3 o_6_X2 o_6_X3 hb_6
  clear hn_7
  clear hBl_6 hBg_6
  go_wp2_with fail
  refine (markStock_c g_3 (len0) len0 (1) (z0.take len0) _ (by omega) (by omega) (by (with_reducible (repeat (first | assumption | apply OwnC.drewN | apply OwnC.drew | apply OwnC.alloc))))).mono ?_
  rintro _ w_8 ⟨rfl, ho_8, hb_8⟩
  have o_8_X2 : OwnC w_8 g_3 (len0) len0 (marksI (1) (len0)) := ho_8
  clear ho_8
  have j_8 : In w_2.heap.size w_2 w_8 := In.wide (by (repeat (first | exact In.refl _ | assumption | apply In.alloc | apply In.drewN | apply In.drew | (refine In.step ?_ (by assumption))))) (below_of_only hb_8 GX_X2.out (In.size (B := w_2.heap.size) (a := w_2) (by (repeat (first | exact In.refl _ | assumption | apply In.alloc | apply In.drewN | apply In.drew | (refine In.step ?_ (by assumption)))))))
  have k_8_p0 : Blk w_8 (b_p0) 24 #[.slice a0 len0 cap0] := Blk.grown k_7_p0 hb_8 (fun h => (OwnC.ne o_7_X2 k_7_p0 (by decide)) (Option.some.inj h).symm)
  have c_8_p0_0 : w_8.cell? ⟨b_p0, 0, none⟩ = some (.slice a0 len0 cap0) := k_8_p0.cell 0
  have l_8_p0 := k_8_p0.lt
  have k_8_p1 : Blk w_8 (b_p1) 32 #[.int .i64 a1_0, .int .i64 a1_1, .int .i64 a1_2] := Blk.grown k_7_p1 hb_8 (fun h => (OwnC.ne o_7_X2 k_7_p1 (by decide)) (Option.some.inj h).symm)
  have c_8_p1_0 : w_8.cell? ⟨b_p1, 0, none⟩ = some (.int .i64 a1_0) := k_8_p1.cell 0
  have c_8_p1_1 : w_8.cell? ⟨b_p1, 1, none⟩ = some (.int .i64 a1_1) := k_8_p1.cell 1
  have c_8_p1_2 : w_8.cell? ⟨b_p1, 2, none⟩ = some (.int .i64 a1_2) := k_8_p1.cell 2
  have l_8_p1 := k_8_p1.lt
  have k_8_l1 : Blk w_8 (gs_2) 27 #[.slice (some ⟨g_2, 0, none⟩) zs.length c_2] := Blk.grown k_7_l1 hb_8 (fun h => (OwnC.ne o_7_X2 k_7_l1 (by decide)) (Option.some.inj h).symm)
  have c_8_l1_0 : w_8.cell? ⟨gs_2, 0, none⟩ = some (.slice (some ⟨g_2, 0, none⟩) zs.length c_2) := k_8_l1.cell 0
  have l_8_l1 := k_8_l1.lt
  have k_8_l2 : Blk w_8 (b_l2) 27 #[.slice (some ⟨g_3, 0, none⟩) len0 len0] := Blk.grown k_7_l2 hb_8 (fun h => (OwnC.ne o_7_X2 k_7_l2 (by decide)) (Option.some.inj h).symm)
  have c_8_l2_0 : w_8.cell? ⟨b_l2, 0, none⟩ = some (.slice (some ⟨g_3, 0, none⟩) len0 len0) := k_8_l2.cell 0
  have l_8_l2 := k_8_l2.lt
  have k_8_l3 : Blk w_8 (gs_5) 27 #[.slice (some ⟨g_5, 0, none⟩) zs.length c_5] := Blk.grown k_7_l3 hb_8 (fun h => (OwnC.ne o_7_X2 k_7_l3 (by decide)) (Option.some.inj h).symm)
  have c_8_l3_0 : w_8.cell? ⟨gs_5, 0, none⟩ = some (.slice (some ⟨g_5, 0, none⟩) zs.length c_5) := k_8_l3.cell 0
  have l_8_l3 := k_8_l3.lt
  have o_8_X3 : OwnC w_8 g_5 (zs.length) c_5 zs := OwnC.only (by (with_reducible (repeat (first | assumption | apply OwnC.drewN | apply OwnC.drew | apply OwnC.alloc)))) hb_8 (by first | exact NE_X3_X2.out | exact NE_X2_X3.out.symm)
  clear j_7 k_7_p0 c_7_p0_0 l_7_p0 k_7_p1 c_7_p1_0 c_7_p1_1 c_7_p1_2 l_7_p1 k_7_l1 c_7_l1_0 l_7_l1 k_7_l2 c_7_l2_0 l_7_l2 k_7_l3 c_7_l3_0 l_7_l3 o_7_X2 o_7_X3 hb_7
  go_wp2_with fail
  refine (eqStock_c (some ⟨g_5, 0, none⟩) (some ⟨g_2, 0, none⟩) (zs.length) c_5 c_2 zs _ (by (try unfold maxLen); omega) (by exact OwnC.reads (by (with_reducible (repeat (first | assumption | apply OwnC.drewN | apply OwnC.drew | apply OwnC.alloc))))) (by exact HW.out.below (In.below (by (repeat (first | exact In.refl _ | assumption | apply In.alloc | apply In.drewN | apply In.drew | (refine In.step ?_ (by assumption)))))) (Nat.le_refl _))).mono ?_
  rintro _ w_9 ⟨rfl, hb_9⟩
  have j_9 : In w_2.heap.size w_2 w_9 := In.step (by (repeat (first | exact In.refl _ | assumption | apply In.alloc | apply In.drewN | apply In.drew | (refine In.step ?_ (by assumption))))) hb_9
  have k_9_p0 : Blk w_9 (b_p0) 24 #[.slice a0 len0 cap0] := Blk.step (by (with_reducible (repeat (first | assumption | exact Blk.new' (by simp) | apply Blk.drewN | apply Blk.drew | apply Blk.alloc | (refine Blk.far ?_ (by (try simp) <;> omega) _))))) hb_9
  have c_9_p0_0 : w_9.cell? ⟨b_p0, 0, none⟩ = some (.slice a0 len0 cap0) := k_9_p0.cell 0
  have l_9_p0 := k_9_p0.lt
  have k_9_p1 : Blk w_9 (b_p1) 32 #[.int .i64 a1_0, .int .i64 a1_1, .int .i64 a1_2] := Blk.step (by (with_reducible (repeat (first | assumption | exact Blk.new' (by simp) | apply Blk.drewN | apply Blk.drew | apply Blk.alloc | (refine Blk.far ?_ (by (try simp) <;> omega) _))))) hb_9
  have c_9_p1_0 : w_9.cell? ⟨b_p1, 0, none⟩ = some (.int .i64 a1_0) := k_9_p1.cell 0
  have c_9_p1_1 : w_9.cell? ⟨b_p1, 1, none⟩ = some (.int .i64 a1_1) := k_9_p1.cell 1
  have c_9_p1_2 : w_9.cell? ⟨b_p1, 2, none⟩ = some (.int .i64 a1_2) := k_9_p1.cell 2
  have l_9_p1 := k_9_p1.lt
  have k_9_l1 : Blk w_9 (gs_2) 27 #[.slice (some ⟨g_2, 0, none⟩) zs.length c_2] := Blk.step (by (with_reducible (repeat (first | assumption | exact Blk.new' (by simp) | apply Blk.drewN | apply Blk.drew | apply Blk.alloc | (refine Blk.far ?_ (by (try simp) <;> omega) _))))) hb_9
  have c_9_l1_0 : w_9.cell? ⟨gs_2, 0, none⟩ = some (.slice (some ⟨g_2, 0, none⟩) zs.length c_2) := k_9_l1.cell 0
  have l_9_l1 := k_9_l1.lt
  have k_9_l2 : Blk w_9 (b_l2) 27 #[.slice (some ⟨g_3, 0, none⟩) len0 len0] := Blk.step (by (with_reducible (repeat (first | assumption | exact Blk.new' (by simp) | apply Blk.drewN | apply Blk.drew | apply Blk.alloc | (refine Blk.far ?_ (by (try simp) <;> omega) _))))) hb_9
  have c_9_l2_0 : w_9.cell? ⟨b_l2, 0, none⟩ = some (.slice (some ⟨g_3, 0, none⟩) len0 len0) := k_9_l2.cell 0
  have l_9_l2 := k_9_l2.lt
  have k_9_l3 : Blk w_9 (gs_5) 27 #[.slice (some ⟨g_5, 0, none⟩) zs.length c_5] := Blk.step (by (with_reducible (repeat (first | assumption | exact Blk.new' (by simp) | apply Blk.drewN | apply Blk.drew | apply Blk.alloc | (refine Blk.far ?_ (by (try simp) <;> omega) _))))) hb_9
  have c_9_l3_0 : w_9.cell? ⟨gs_5, 0, none⟩ = some (.slice (some ⟨g_5, 0, none⟩) zs.length c_5) := k_9_l3.cell 0
  have l_9_l3 := k_9_l3.lt
  have o_9_X2 : OwnC w_9 g_3 (len0) len0 (marksI (1) (len0)) := OwnC.step (by (with_reducible (repeat (first | assumption | apply OwnC.drewN | apply OwnC.drew | apply OwnC.alloc)))) hb_9
  have o_9_X3 : OwnC w_9 g_5 (zs.length) c_5 zs := OwnC.step (by (with_reducible (repeat (first | assumption | apply OwnC.drewN | apply OwnC.drew | apply OwnC.alloc)))) hb_9
  clear j_8 k_8_p0 c_8_p0_0 l_8_p0 k_8_p1 c_8_p1_0 c_8_p1_1 c_8_p1_2 l_8_p1 k_8_l1 c_8_l1_0 l_8_l1 k_8_l2 c_8_l2_0 l_8_l2 k_8_l3 c_8_l3_0 l_8_l3 o_8_X2 o_8_X3 hb_8
  go_wp2_with fail
  refine (markStock_c g_5 (zs.length) c_5 (1) zs _ (by omega) (by omega) (by (with_reducible (repeat (first | assumption | apply OwnC.drewN | apply OwnC.drew | apply OwnC.alloc))))).mono ?_
  rintro _ w_10 ⟨rfl, ho_10, hb_10⟩
  have o_10_X3 : OwnC w_10 g_5 (zs.length) c_5 (marksI (1) (zs.length)) := ho_10
  clear ho_10
  have j_10 : In w_2.heap.size w_2 w_10 := In.wide (by (repeat (first | exact In.refl _ | assumption | apply In.alloc | apply In.drewN | apply In.drew | (refine In.step ?_ (by assumption))))) (below_of_only hb_10 GX_X3.out (In.size (B := w_2.heap.size) (a := w_2) (by (repeat (first | exact In.refl _ | assumption | apply In.alloc | apply In.drewN | apply In.drew | (refine In.step ?_ (by assumption)))))))
  have k_10_p0 : Blk w_10 (b_p0) 24 #[.slice a0 len0 cap0] := Blk.grown k_9_p0 hb_10 (fun h => (OwnC.ne o_9_X3 k_9_p0 (by decide)) (Option.some.inj h).symm)
  have c_10_p0_0 : w_10.cell? ⟨b_p0, 0, none⟩ = some (.slice a0 len0 cap0) := k_10_p0.cell 0
  have l_10_p0 := k_10_p0.lt
  have k_10_p1 : Blk w_10 (b_p1) 32 #[.int .i64 a1_0, .int .i64 a1_1, .int .i64 a1_2] := Blk.grown k_9_p1 hb_10 (fun h => (OwnC.ne o_9_X3 k_9_p1 (by decide)) (Option.some.inj h).symm)
  have c_10_p1_0 : w_10.cell? ⟨b_p1, 0, none⟩ = some (.int .i64 a1_0) := k_10_p1.cell 0
  have c_10_p1_1 : w_10.cell? ⟨b_p1, 1, none⟩ = some (.int .i64 a1_1) := k_10_p1.cell 1
  have c_10_p1_2 : w_10.cell? ⟨b_p1, 2, none⟩ = some (.int .i64 a1_2) := k_10_p1.cell 2
  have l_10_p1 := k_10_p1.lt
  have k_10_l1 : Blk w_10 (gs_2) 27 #[.slice (some ⟨g_2, 0, none⟩) zs.length c_2] := Blk.grown k_9_l1 hb_10 (fun h => (OwnC.ne o_9_X3 k_9_l1 (by decide)) (Option.some.inj h).symm)
  have c_10_l1_0 : w_10.cell? ⟨gs_2, 0, none⟩ = some (.slice (some ⟨g_2, 0, none⟩) zs.length c_2) := k_10_l1.cell 0
  have l_10_l1 := k_10_l1.lt
  have k_10_l2 : Blk w_10 (b_l2) 27 #[.slice (some ⟨g_3, 0, none⟩) len0 len0] := Blk.grown k_9_l2 hb_10 (fun h => (OwnC.ne o_9_X3 k_9_l2 (by decide)) (Option.some.inj h).symm)
  have c_10_l2_0 : w_10.cell? ⟨b_l2, 0, none⟩ = some (.slice (some ⟨g_3, 0, none⟩) len0 len0) := k_10_l2.cell 0
  have l_10_l2 := k_10_l2.lt
  have k_10_l3 : Blk w_10 (gs_5) 27 #[.slice (some ⟨g_5, 0, none⟩) zs.length c_5] := Blk.grown k_9_l3 hb_10 (fun h => (OwnC.ne o_9_X3 k_9_l3 (by decide)) (Option.some.inj h).symm)
  have c_10_l3_0 : w_10.cell? ⟨gs_5, 0, none⟩ = some (.slice (some ⟨g_5, 0, none⟩) zs.length c_5) := k_10_l3.cell 0
  have l_10_l3 := k_10_l3.lt
  have o_10_X2 : OwnC w_10 g_3 (len0) len0 (marksI (1) (len0)) := OwnC.only (by (with_reducible (repeat (first | assumption | apply OwnC.drewN | apply OwnC.drew | apply OwnC.alloc)))) hb_10 (by first | exact NE_X2_X3.out | exact NE_X3_X2.out.symm)
  clear j_9 k_9_p0 c_9_p0_0 l_9_p0 k_9_p1 c_9_p1_0 c_9_p1_1 c_9_p1_2 l_9_p1 k_9_l1 c_9_l1_0 l_9_l1 k_9_l2 c_9_l2_0 l_9_l2 k_9_l3 c_9_l3_0 l_9_l3 o_9_X2 o_9_X3 hb_9
  go_wp2_with fail
  refine (heldStock_c (some ⟨g_5, 0, none⟩) (zs.length) c_5 (1) _ (by omega) (by omega) (by exact OwnC.reads (by (with_reducible (repeat (first | assumption | apply OwnC.drewN | apply OwnC.drew | apply OwnC.alloc)))))).mono ?_
  rintro _ w_11 ⟨rfl, hb_11⟩
  have j_11 : In w_2.heap.size w_2 w_11 := In.step (by (repeat (first | exact In.refl _ | assumption | apply In.alloc | apply In.drewN | apply In.drew | (refine In.step ?_ (by assumption))))) hb_11
  have k_11_p0 : Blk w_11 (b_p0) 24 #[.slice a0 len0 cap0] := Blk.step (by (with_reducible (repeat (first | assumption | exact Blk.new' (by simp) | apply Blk.drewN | apply Blk.drew | apply Blk.alloc | (refine Blk.far ?_ (by (try simp) <;> omega) _))))) hb_11
  have c_11_p0_0 : w_11.cell? ⟨b_p0, 0, none⟩ = some (.slice a0 len0 cap0) := k_11_p0.cell 0
  have l_11_p0 := k_11_p0.lt
  have k_11_p1 : Blk w_11 (b_p1) 32 #[.int .i64 a1_0, .int .i64 a1_1, .int .i64 a1_2] := Blk.step (by (with_reducible (repeat (first | assumption | exact Blk.new' (by simp) | apply Blk.drewN | apply Blk.drew | apply Blk.alloc | (refine Blk.far ?_ (by (try simp) <;> omega) _))))) hb_11
  have c_11_p1_0 : w_11.cell? ⟨b_p1, 0, none⟩ = some (.int .i64 a1_0) := k_11_p1.cell 0
  have c_11_p1_1 : w_11.cell? ⟨b_p1, 1, none⟩ = some (.int .i64 a1_1) := k_11_p1.cell 1
  have c_11_p1_2 : w_11.cell? ⟨b_p1, 2, none⟩ = some (.int .i64 a1_2) := k_11_p1.cell 2
  have l_11_p1 := k_11_p1.lt
  have k_11_l1 : Blk w_11 (gs_2) 27 #[.slice (some ⟨g_2, 0, none⟩) zs.length c_2] := Blk.step (by (with_reducible (repeat (first | assumption | exact Blk.new' (by simp) | apply Blk.drewN | apply Blk.drew | apply Blk.alloc | (refine Blk.far ?_ (by (try simp) <;> omega) _))))) hb_11
  have c_11_l1_0 : w_11.cell? ⟨gs_2, 0, none⟩ = some (.slice (some ⟨g_2, 0, none⟩) zs.length c_2) := k_11_l1.cell 0
  have l_11_l1 := k_11_l1.lt
  have k_11_l2 : Blk w_11 (b_l2) 27 #[.slice (some ⟨g_3, 0, none⟩) len0 len0] := Blk.step (by (with_reducible (repeat (first | assumption | exact Blk.new' (by simp) | apply Blk.drewN | apply Blk.drew | apply Blk.alloc | (refine Blk.far ?_ (by (try simp) <;> omega) _))))) hb_11
  have c_11_l2_0 : w_11.cell? ⟨b_l2, 0, none⟩ = some (.slice (some ⟨g_3, 0, none⟩) len0 len0) := k_11_l2.cell 0
  have l_11_l2 := k_11_l2.lt
  have k_11_l3 : Blk w_11 (gs_5) 27 #[.slice (some ⟨g_5, 0, none⟩) zs.length c_5] := Blk.step (by (with_reducible (repeat (first | assumption | exact Blk.new' (by simp) | apply Blk.drewN | apply Blk.drew | apply Blk.alloc | (refine Blk.far ?_ (by (try simp) <;> omega) _))))) hb_11
  have c_11_l3_0 : w_11.cell? ⟨gs_5, 0, none⟩ = some (.slice (some ⟨g_5, 0, none⟩) zs.length c_5) := k_11_l3.cell 0
  have l_11_l3 := k_11_l3.lt
  have o_11_X2 : OwnC w_11 g_3 (len0) len0 (marksI (1) (len0)) := OwnC.step (by (with_reducible (repeat (first | assumption | apply OwnC.drewN | apply OwnC.drew | apply OwnC.alloc)))) hb_11
  have o_11_X3 : OwnC w_11 g_5 (zs.length) c_5 (marksI (1) (zs.length)) := OwnC.step (by (with_reducible (repeat (first | assumption | apply OwnC.drewN | apply OwnC.drew | apply OwnC.alloc)))) hb_11
  clear j_10 k_10_p0 c_10_p0_0 l_10_p0 k_10_p1 c_10_p1_0 c_10_p1_1 c_10_p1_2 l_10_p1 k_10_l1 c_10_l1_0 l_10_l1 k_10_l2 c_10_l2_0 l_10_l2 k_10_l3 c_10_l3_0 l_10_l3 o_10_X2 o_10_X3 hb_10
  go_wp2_with fail
  have hBw_11 : w_11.heap.size ≤ w_11.heap.size := Nat.le_refl _
  obtain ⟨B_11, hB_11⟩ : ∃ B, B = w_11.heap.size := ⟨_, rfl⟩
  have hBl_11 : B_11 ≤ w_11.heap.size := by omega
  have hBg_11 : w_11.heap.size ≤ B_11 := by omega
  clear hBw_11 hB_11
  refine wp_region_facts (JITakeFord w_11 a0 len0 cap0 z0 a1_0 a1_1 a1_2 a2 zs fv b_p1 b_p0 ha gs_2 g_2 c_2 g_3 b_l2 hb gs_5 g_5 c_5 hc) (JFTakeFord B_11 a0 len0 cap0 z0 a1_0 a1_1 a1_2 a2 zs fv b_p1 b_p0 ha gs_2 g_2 c_2 g_3 b_l2 hb gs_5 g_5 c_5 hc) (by kernel_rfl) (by kernel_rfl) ⟨⟨fun _ => undef, rfl⟩, (In.refl _).drew⟩ ?_ ?_
  · intro a v1 i o ho hI haf
    obtain ⟨⟨f, rfl⟩, hin⟩ := hI
    have kv_p0 : Blk v1 (b_p0) 24 #[.slice a0 len0 cap0] := Blk.step k_11_p0 hin.below
    have cv_p0_0 := kv_p0.cell 0
    have kv_p1 : Blk v1 (b_p1) 32 #[.int .i64 a1_0, .int .i64 a1_1, .int .i64 a1_2] := Blk.step k_11_p1 hin.below
    have cv_p1_0 := kv_p1.cell 0
    have cv_p1_1 := kv_p1.cell 1
    have cv_p1_2 := kv_p1.cell 2
    have kv_l1 : Blk v1 (gs_2) 27 #[.slice (some ⟨g_2, 0, none⟩) zs.length c_2] := Blk.step k_11_l1 hin.below
    have cv_l1_0 := kv_l1.cell 0
    have kv_l2 : Blk v1 (b_l2) 27 #[.slice (some ⟨g_3, 0, none⟩) len0 len0] := Blk.step k_11_l2 hin.below
    have cv_l2_0 := kv_l2.cell 0
    have kv_l3 : Blk v1 (gs_5) 27 #[.slice (some ⟨g_5, 0, none⟩) zs.length c_5] := Blk.step k_11_l3 hin.below
    have cv_l3_0 := kv_l3.cell 0
    have ov_X2 : OwnC v1 g_3 (len0) len0 (marksI (1) (len0)) := OwnC.step o_11_X2 hin.below
    have ov_X3 : OwnC v1 g_5 (zs.length) c_5 (marksI (1) (zs.length)) := OwnC.step o_11_X3 hin.below
    have hi : i < 12 := by
      rcases Nat.lt_or_ge i 12 with h | h
      · exact h
      · simp [h] at ho
    suffices H : ∀ K : Act → World → Prop, (∀ a' w', ((JITakeFord w_11 a0 len0 cap0 z0 a1_0 a1_1 a1_2 a2 zs fv b_p1 b_p0 ha gs_2 g_2 c_2 g_3 b_l2 hb gs_5 g_5 c_5 hc) a' w' ∧ (JFTakeFord B_11 a0 len0 cap0 z0 a1_0 a1_1 a1_2 a2 zs fv b_p1 b_p0 ha gs_2 g_2 c_2 g_3 b_l2 hb gs_5 g_5 c_5 hc) i a' w' ∧ ∀ j, j ≠ i → waitsB _ j i = false → (JFTakeFord B_11 a0 len0 cap0 z0 a1_0 a1_1 a1_2 a2 zs fv b_p1 b_p0 ha gs_2 g_2 c_2 g_3 b_l2 hb gs_5 g_5 c_5 hc) j ⟨#[Value.agg #[Value.slice a0 len0 cap0], Value.agg #[Value.int IntKind.i64 a1_0, Value.int IntKind.i64 a1_1, Value.int IntKind.i64 a1_2], Value.int IntKind.i64 a2, Value.pointer (some { block := b_p0, off := 0 }), Value.pointer (some { block := b_p1, off := 0 }), undef, Value.bool false, Value.int IntKind.i64 (1048576 - ((len0 : Nat) : Int)), Value.pointer (some { block := gs_2, off := 0 }), Value.bool fv, Value.pointer (some { block := b_l2, off := 0 }), Value.pointer (some { block := gs_5, off := 0 }), Value.bool fv, Value.int IntKind.i64 (1 + ((len0 : Nat) : Int)), Value.int IntKind.i64 (1 + ((zs.length : Nat) : Int)), Value.int IntKind.i64 (1 + ((zs.length : Nat) : Int)), f 16, f 17, Value.agg #[Value.slice a0 len0 cap0], Value.int IntKind.i64 1048576, Value.int IntKind.i64 (1048576 - ((len0 : Nat) : Int)), Value.int IntKind.i64 (1048576 - ((len0 : Nat) : Int)), Value.bool (decide (1048576 - ((len0 : Nat) : Int) < 0)), ha 23, ha 24, ha 25, ha 26, ha 27, ha 28, ha 29, ha 30, ha 31, Value.agg #[Value.slice a0 len0 cap0], Value.agg #[Value.slice (some { block := g_3, off := 0 }) len0 len0], hb 34, hb 35, hb 36, hb 37, hb 38, hb 39, hb 40, hb 41, Value.agg #[Value.slice (some { block := g_5, off := 0 }) zs.length c_5], Value.agg #[Value.slice (some { block := g_2, off := 0 }) zs.length c_2], Value.bool true, Value.bool false, Value.bool false, Value.bool fv, Value.bool fv, Value.bool false, Value.bool false, hc 51, hc 52, hc 53, hc 54, Value.bool false, Value.agg #[Value.slice (some { block := g_3, off := 0 }) len0 len0], Value.int IntKind.i64 1, Value.int IntKind.i64 (1 + ((len0 : Nat) : Int)), Value.int IntKind.i64 (1 + ((len0 : Nat) : Int)), Value.bool (decide (1 + ((len0 : Nat) : Int) < 0)), Value.bool (decide (1 + ((len0 : Nat) : Int) < 0)), Value.agg #[Value.slice (some { block := g_5, off := 0 }) zs.length c_5], Value.agg #[Value.slice (some { block := g_2, off := 0 }) zs.length c_2], Value.bool true, Value.bool false, Value.bool (decide (1 + ((len0 : Nat) : Int) < 0)), Value.bool (decide (1 + ((len0 : Nat) : Int) < 0)), Value.bool fv, Value.bool fv, Value.bool false, Value.bool (decide (1 + ((len0 : Nat) : Int) < 0)), Value.agg #[Value.slice (some { block := g_5, off := 0 }) zs.length c_5], Value.int IntKind.i64 1, Value.int IntKind.i64 (1 + ((zs.length : Nat) : Int)), Value.agg #[Value.slice (some { block := g_5, off := 0 }) zs.length c_5], Value.int IntKind.i64 1, Value.int IntKind.i64 (1 + ((zs.length : Nat) : Int)), Value.int IntKind.i64 (1 + ((zs.length : Nat) : Int)), Value.bool (decide (1 + ((zs.length : Nat) : Int) < 0)), Value.int IntKind.i64 (1 + ((zs.length : Nat) : Int)), Value.int IntKind.i64 (1 + ((zs.length : Nat) : Int)), Value.bool false, f 83, f 84, f 85, f 86, f 87, f 88, f 89, f 90, f 91, undef, undef, undef, undef, undef, undef, undef, undef, undef, undef, undef, undef, undef, undef, undef, undef, undef], []⟩ v1 → (JFTakeFord B_11 a0 len0 cap0 z0 a1_0 a1_1 a1_2 a2 zs fv b_p1 b_p0 ha gs_2 g_2 c_2 g_3 b_l2 hb gs_5 g_5 c_5 hc) j a' w') → K a' w') → wpOp _ _ _ i K ⟨#[Value.agg #[Value.slice a0 len0 cap0], Value.agg #[Value.int IntKind.i64 a1_0, Value.int IntKind.i64 a1_1, Value.int IntKind.i64 a1_2], Value.int IntKind.i64 a2, Value.pointer (some { block := b_p0, off := 0 }), Value.pointer (some { block := b_p1, off := 0 }), undef, Value.bool false, Value.int IntKind.i64 (1048576 - ((len0 : Nat) : Int)), Value.pointer (some { block := gs_2, off := 0 }), Value.bool fv, Value.pointer (some { block := b_l2, off := 0 }), Value.pointer (some { block := gs_5, off := 0 }), Value.bool fv, Value.int IntKind.i64 (1 + ((len0 : Nat) : Int)), Value.int IntKind.i64 (1 + ((zs.length : Nat) : Int)), Value.int IntKind.i64 (1 + ((zs.length : Nat) : Int)), f 16, f 17, Value.agg #[Value.slice a0 len0 cap0], Value.int IntKind.i64 1048576, Value.int IntKind.i64 (1048576 - ((len0 : Nat) : Int)), Value.int IntKind.i64 (1048576 - ((len0 : Nat) : Int)), Value.bool (decide (1048576 - ((len0 : Nat) : Int) < 0)), ha 23, ha 24, ha 25, ha 26, ha 27, ha 28, ha 29, ha 30, ha 31, Value.agg #[Value.slice a0 len0 cap0], Value.agg #[Value.slice (some { block := g_3, off := 0 }) len0 len0], hb 34, hb 35, hb 36, hb 37, hb 38, hb 39, hb 40, hb 41, Value.agg #[Value.slice (some { block := g_5, off := 0 }) zs.length c_5], Value.agg #[Value.slice (some { block := g_2, off := 0 }) zs.length c_2], Value.bool true, Value.bool false, Value.bool false, Value.bool fv, Value.bool fv, Value.bool false, Value.bool false, hc 51, hc 52, hc 53, hc 54, Value.bool false, Value.agg #[Value.slice (some { block := g_3, off := 0 }) len0 len0], Value.int IntKind.i64 1, Value.int IntKind.i64 (1 + ((len0 : Nat) : Int)), Value.int IntKind.i64 (1 + ((len0 : Nat) : Int)), Value.bool (decide (1 + ((len0 : Nat) : Int) < 0)), Value.bool (decide (1 + ((len0 : Nat) : Int) < 0)), Value.agg #[Value.slice (some { block := g_5, off := 0 }) zs.length c_5], Value.agg #[Value.slice (some { block := g_2, off := 0 }) zs.length c_2], Value.bool true, Value.bool false, Value.bool (decide (1 + ((len0 : Nat) : Int) < 0)), Value.bool (decide (1 + ((len0 : Nat) : Int) < 0)), Value.bool fv, Value.bool fv, Value.bool false, Value.bool (decide (1 + ((len0 : Nat) : Int) < 0)), Value.agg #[Value.slice (some { block := g_5, off := 0 }) zs.length c_5], Value.int IntKind.i64 1, Value.int IntKind.i64 (1 + ((zs.length : Nat) : Int)), Value.agg #[Value.slice (some { block := g_5, off := 0 }) zs.length c_5], Value.int IntKind.i64 1, Value.int IntKind.i64 (1 + ((zs.length : Nat) : Int)), Value.int IntKind.i64 (1 + ((zs.length : Nat) : Int)), Value.bool (decide (1 + ((zs.length : Nat) : Int) < 0)), Value.int IntKind.i64 (1 + ((zs.length : Nat) : Int)), Value.int IntKind.i64 (1 + ((zs.length : Nat) : Int)), Value.bool false, f 83, f 84, f 85, f 86, f 87, f 88, f 89, f 90, f 91, undef, undef, undef, undef, undef, undef, undef, undef, undef, undef, undef, undef, undef, undef, undef, undef, undef], []⟩ v1 from H _ fun _ _ h => h
    intro K hK
    rcases (by omega : i = 0 ∨ i = 1 ∨ i = 2 ∨ i = 3 ∨ i = 4 ∨ i = 5 ∨ i = 6 ∨ i = 7 ∨ i = 8 ∨ i = 9 ∨ i = 10 ∨ i = 11) with rfl | rfl | rfl | rfl | rfl | rfl | rfl | rfl | rfl | rfl | rfl | rfl
    · obtain rfl := Option.some.inj ho
      refine wpOp_plain rfl rfl ?_
      unfold Oper.wp
      go_simp
      exact hK _ _ ⟨⟨⟨updf f 84 (.agg #[.slice a0 len0 cap0]), rfl⟩, hin⟩, rfl, fun j hj hw hf => by
          rcases j with _ | _ | _ | _ | _ | _ | _ | _ | _ | _ | _ | _ | j
          all_goals first | exact absurd rfl hj | exact hf | rfl⟩
    · obtain rfl := Option.some.inj ho
      have f0 := haf { on := 0, ground := .data } (by simp) rfl
      have f0 : _ = _ := Option.some.inj f0
      refine wpOp_plain rfl rfl ?_
      unfold Oper.wp
      go_simp
      refine (toStock_c a0 len0 cap0 (z0.take len0) _ (by omega) (R0.out.below ((IC.out.trans j_11).trans hin).below (Nat.le_refl _))).mono ?_
      rintro _ v2 ⟨g2, rfl, ho2, hg2, hb2⟩
      exact hK _ _ ⟨⟨⟨updf f 85 (.agg #[.slice (some ⟨g2, 0, none⟩) len0 len0]), rfl⟩, hin.step hb2⟩, ⟨g2, Nat.le_trans (Nat.le_trans hBl_11 hin.size) hg2, rfl, ho2⟩, fun j hj hw hf => by
          rcases j with _ | _ | _ | _ | _ | _ | _ | _ | _ | _ | _ | _ | j
          all_goals first | exact absurd rfl hj | exact hf | rfl | (obtain ⟨g, c, h0, h1, h2⟩ := hf; exact ⟨g, c, h0, h1, h2.step hb2⟩) | (obtain ⟨g, h0, h1, h2⟩ := hf; exact ⟨g, h0, h1, h2.step hb2⟩) | (obtain ⟨gs, X, h0, h1, h2⟩ := hf; exact ⟨gs, X, h0, h1, h2.step hb2⟩) | (obtain ⟨gs, g, c, h0, h1, h2, h3, h4⟩ := hf; exact ⟨gs, g, c, h0, h1, h2.step hb2, h3, h4.step hb2⟩)⟩
    · obtain rfl := Option.some.inj ho
      refine wpOp_plain rfl rfl ?_
      unfold Oper.wp
      go_simp
      exact hK _ _ ⟨⟨⟨updf f 86 (.agg #[.int .i64 a1_0, .int .i64 a1_1, .int .i64 a1_2]), rfl⟩, hin⟩, rfl, fun j hj hw hf => by
          rcases j with _ | _ | _ | _ | _ | _ | _ | _ | _ | _ | _ | _ | j
          all_goals first | exact absurd rfl hj | exact hf | rfl⟩
    · obtain rfl := Option.some.inj ho
      have f2 := haf { on := 2, ground := .data } (by simp) rfl
      have f2 : _ = _ := Option.some.inj f2
      refine wpOp_plain rfl rfl ?_
      unfold Oper.wp
      go_simp
      refine (toDough_c a1_0 a1_1 a1_2 _).mono ?_
      rintro _ v2 ⟨rfl, hb2⟩
      exact hK _ _ ⟨⟨⟨updf f 87 (.agg #[.int .i64 a1_0, .int .i64 a1_1, .int .i64 a1_2]), rfl⟩, hin.step hb2⟩, rfl, fun j hj hw hf => by
          rcases j with _ | _ | _ | _ | _ | _ | _ | _ | _ | _ | _ | _ | j
          all_goals first | exact absurd rfl hj | exact hf | rfl | (obtain ⟨g, c, h0, h1, h2⟩ := hf; exact ⟨g, c, h0, h1, h2.step hb2⟩) | (obtain ⟨g, h0, h1, h2⟩ := hf; exact ⟨g, h0, h1, h2.step hb2⟩) | (obtain ⟨gs, X, h0, h1, h2⟩ := hf; exact ⟨gs, X, h0, h1, h2.step hb2⟩) | (obtain ⟨gs, g, c, h0, h1, h2, h3, h4⟩ := hf; exact ⟨gs, g, c, h0, h1, h2.step hb2, h3, h4.step hb2⟩)⟩
    · obtain rfl := Option.some.inj ho
      refine wpOp_plain rfl rfl ?_
      unfold Oper.wp
      go_simp
      exact hK _ _ ⟨⟨⟨updf f 88 (.int .i64 a2), rfl⟩, hin⟩, rfl, fun j hj hw hf => by
          rcases j with _ | _ | _ | _ | _ | _ | _ | _ | _ | _ | _ | _ | j
          all_goals first | exact absurd rfl hj | exact hf | rfl⟩
    · obtain rfl := Option.some.inj ho
      obtain ⟨g_1, hb1, f1, ho1⟩ := haf { on := 1, ground := .data } (by simp) rfl
      have f1 : _ = _ := Option.some.inj f1
      have f3 := haf { on := 3, ground := .data } (by simp) rfl
      have f3 : _ = _ := Option.some.inj f3
      have f4 := haf { on := 4, ground := .data } (by simp) rfl
      have f4 : _ = _ := Option.some.inj f4
      refine wpOp_plain rfl rfl ?_
      unfold Oper.wp
      go_simp
      refine (HiC.out ⟨g_1, 0, none⟩ (len0) _ (ho1.reads)).mono ?_
      rintro _ v2 ⟨g2, c2, rfl, ho2, hg2, hb2⟩
      exact hK _ _ ⟨⟨⟨updf f 89 (.tuple #[.agg #[.slice (some ⟨g2, 0, none⟩) zs.length c2], .bool fv]), rfl⟩, hin.step hb2⟩, ⟨g2, c2, Nat.le_trans (Nat.le_trans hBl_11 hin.size) hg2, rfl, ho2⟩, fun j hj hw hf => by
          rcases j with _ | _ | _ | _ | _ | _ | _ | _ | _ | _ | _ | _ | j
          all_goals first | exact absurd rfl hj | exact hf | rfl | (obtain ⟨g, c, h0, h1, h2⟩ := hf; exact ⟨g, c, h0, h1, h2.step hb2⟩) | (obtain ⟨g, h0, h1, h2⟩ := hf; exact ⟨g, h0, h1, h2.step hb2⟩) | (obtain ⟨gs, X, h0, h1, h2⟩ := hf; exact ⟨gs, X, h0, h1, h2.step hb2⟩) | (obtain ⟨gs, g, c, h0, h1, h2, h3, h4⟩ := hf; exact ⟨gs, g, c, h0, h1, h2.step hb2, h3, h4.step hb2⟩)⟩
    · obtain rfl := Option.some.inj ho
      obtain ⟨g_5, c_5, hb5, f5, ho5⟩ := haf { on := 5, ground := .data } (by simp) rfl
      have f5 : _ = _ := Option.some.inj f5
      refine wpOp_plain rfl rfl ?_
      unfold Oper.wp
      go_simp
      exact hK _ _ ⟨⟨⟨updf f 83 (.tuple #[.agg #[.slice (some ⟨g_5, 0, none⟩) zs.length c_5], .bool fv]), rfl⟩, hin⟩, ⟨g_5, c_5, hb5, rfl, ho5⟩, fun j hj hw hf => by
          rcases j with _ | _ | _ | _ | _ | _ | _ | _ | _ | _ | _ | _ | j
          all_goals first | exact absurd rfl hj | exact hf | rfl⟩
    · obtain rfl := Option.some.inj ho
      obtain ⟨g_6, c_6, hb6, f6, ho6⟩ := haf { on := 6, ground := .data } (by simp) rfl
      have f6 : _ = _ := Option.some.inj f6
      refine wpOp_plain rfl rfl ?_
      unfold Oper.wp
      go_simp
      exact hK _ _ ⟨⟨⟨updf f 90 (.agg #[.slice (some ⟨g_6, 0, none⟩) zs.length c_6]), rfl⟩, hin⟩, ⟨g_6, c_6, hb6, rfl, ho6⟩, fun j hj hw hf => by
          rcases j with _ | _ | _ | _ | _ | _ | _ | _ | _ | _ | _ | _ | j
          all_goals first | exact absurd rfl hj | exact hf | rfl⟩
    · obtain rfl := Option.some.inj ho
      obtain ⟨g_6, c_6, hb6, f6, ho6⟩ := haf { on := 6, ground := .data } (by simp) rfl
      have f6 : _ = _ := Option.some.inj f6
      refine wpOp_plain rfl rfl ?_
      unfold Oper.wp
      go_simp
      exact hK _ _ ⟨⟨⟨updf f 91 (.bool fv), rfl⟩, hin⟩, rfl, fun j hj hw hf => by
          rcases j with _ | _ | _ | _ | _ | _ | _ | _ | _ | _ | _ | _ | j
          all_goals first | exact absurd rfl hj | exact hf | rfl⟩
    · obtain rfl := Option.some.inj ho
      refine wpOp_plain rfl rfl ?_
      unfold Oper.wp
      go_simp
      exact hK _ _ ⟨⟨⟨updf f 16 (.pointer (some ⟨v1.heap.size, 0, none⟩)), rfl⟩, hin.alloc _⟩, ⟨v1.heap.size, _, Nat.le_trans hBl_11 hin.size, rfl, Blk.new v1 _ _⟩, fun j hj hw hf => by
          rcases j with _ | _ | _ | _ | _ | _ | _ | _ | _ | _ | _ | _ | j
          all_goals first | exact absurd rfl hj | exact hf | rfl | (obtain ⟨g, c, h0, h1, h2⟩ := hf; exact ⟨g, c, h0, h1, h2.step ((Below.refl _ v1).alloc (Nat.le_refl _) _)⟩) | (obtain ⟨g, h0, h1, h2⟩ := hf; exact ⟨g, h0, h1, h2.step ((Below.refl _ v1).alloc (Nat.le_refl _) _)⟩) | (obtain ⟨gs, X, h0, h1, h2⟩ := hf; exact ⟨gs, X, h0, h1, h2.step ((Below.refl _ v1).alloc (Nat.le_refl _) _)⟩) | (obtain ⟨gs, g, c, h0, h1, h2, h3, h4⟩ := hf; exact ⟨gs, g, c, h0, h1, h2.step ((Below.refl _ v1).alloc (Nat.le_refl _) _), h3, h4.step ((Below.refl _ v1).alloc (Nat.le_refl _) _)⟩) | exact absurd (hw.symm.trans (show waitsB _ _ _ = true by kernel_rfl)) (by decide)⟩
    · obtain rfl := Option.some.inj ho
      obtain ⟨g_7, c_7, hb7, f7, ho7⟩ := haf { on := 7, ground := .data } (by simp) rfl
      have f7 : _ = _ := Option.some.inj f7
      obtain ⟨gs, X, hgB, hsl, hbk⟩ := haf { on := 9, ground := .data } (by simp) rfl
      have hsl : _ = _ := Option.some.inj hsl
      have z0 := hbk.cell 0
      have y0 := hbk.frozen 0
      have hgw := Nat.le_trans hBg_11 hgB
      have hb2 : Below w_11.heap.size v1 (v1.setCell ⟨gs, 0, none⟩ (.slice (some ⟨g_7, 0, none⟩) zs.length c_7)) := (Below.refl _ _).setCell hgw _
      have hgr : v1.grownBy (v1.setCell ⟨gs, 0, none⟩ (.slice (some ⟨g_7, 0, none⟩) zs.length c_7)) (some gs) := only_set _ _
      have HBK : Blk (v1.setCell ⟨gs, 0, none⟩ (.slice (some ⟨g_7, 0, none⟩) zs.length c_7)) gs 27 #[.slice (some ⟨g_7, 0, none⟩) zs.length c_7] := hbk.set_ 0 _
      refine wpOp_plain rfl rfl ?_
      unfold Oper.wp
      go_simp
      exact hK _ _ ⟨⟨⟨f, rfl⟩, hin.wide hb2⟩, ⟨gs, g_7, c_7, hgB, congrArg some hsl, HBK, hb7, ho7.far hbk (by decide) hgr⟩, fun j hj hw hf => by
          rcases j with _ | _ | _ | _ | _ | _ | _ | _ | _ | _ | _ | _ | j
          all_goals first | exact absurd rfl hj | exact hf | rfl | exact ⟨gs, _, hgB, congrArg some hsl, HBK⟩ | (obtain ⟨g, c, h0, h1, h2⟩ := hf; exact ⟨g, c, h0, h1, h2.far hbk (by decide) hgr⟩) | (obtain ⟨g, h0, h1, h2⟩ := hf; exact ⟨g, h0, h1, h2.far hbk (by decide) hgr⟩)⟩
    · obtain rfl := Option.some.inj ho
      have f8 := haf { on := 8, ground := .data } (by simp) rfl
      have f8 : _ = _ := Option.some.inj f8
      refine wpOp_plain rfl rfl ?_
      unfold Oper.wp
      go_simp
      exact hK _ _ ⟨⟨⟨updf f 17 (.bool fv), rfl⟩, hin⟩, rfl, fun j hj hw hf => by
          rcases j with _ | _ | _ | _ | _ | _ | _ | _ | _ | _ | _ | _ | j
          all_goals first | exact absurd rfl hj | exact hf | rfl⟩
  intro a w_12 hI hF
  obtain ⟨⟨hd, rfl⟩, hn_12⟩ := hI
  have hb_12 := hn_12.below
  obtain ⟨gs_12, g_12, c_12, hgs_12, hs_12, kk_12, hg_12, ho_12⟩ := hF 10 (by decide)
  have hs_12 : hd 16 = _ := Option.some.inj hs_12
  have he_12_17 : hd 17 = _ := Option.some.inj (hF 11 (by decide))
  clear hF
  rw [hs_12, he_12_17]
  clear hs_12 he_12_17
  have NE_X2_X4 : Hid (g_3 ≠ g_12) := Lib.hid (by have h1 := (Nat.le_trans hBg_11 hg_12); (try simp at h1); have h2 := OwnC.lt o_11_X2; omega)
  have NE_X3_X4 : Hid (g_5 ≠ g_12) := Lib.hid (by have h1 := (Nat.le_trans hBg_11 hg_12); (try simp at h1); have h2 := OwnC.lt o_11_X3; omega)
  have GX_X4 : Hid (w_2.heap.size ≤ g_12) := Lib.hid (by have h1 := (Nat.le_trans hBg_11 hg_12); (try simp at h1); have h2 := In.size j_11; omega)
  have o_12_X4 : OwnC w_12 g_12 (zs.length) c_12 zs := ho_12
  clear ho_12 hg_12
  have kb_12 : Blk w_12 (gs_12) 27 #[.slice (some ⟨g_12, 0, none⟩) zs.length c_12] := kk_12
  clear kk_12
  have j_12 : In w_2.heap.size w_2 w_12 := In.step (by (repeat (first | exact In.refl _ | assumption | apply In.alloc | apply In.drewN | apply In.drew | (refine In.step ?_ (by assumption))))) hb_12
  have k_12_p0 : Blk w_12 (b_p0) 24 #[.slice a0 len0 cap0] := Blk.step (by (with_reducible (repeat (first | assumption | exact Blk.new' (by simp) | apply Blk.drewN | apply Blk.drew | apply Blk.alloc | (refine Blk.far ?_ (by (try simp) <;> omega) _))))) hb_12
  have c_12_p0_0 : w_12.cell? ⟨b_p0, 0, none⟩ = some (.slice a0 len0 cap0) := k_12_p0.cell 0
  have l_12_p0 := k_12_p0.lt
  have k_12_p1 : Blk w_12 (b_p1) 32 #[.int .i64 a1_0, .int .i64 a1_1, .int .i64 a1_2] := Blk.step (by (with_reducible (repeat (first | assumption | exact Blk.new' (by simp) | apply Blk.drewN | apply Blk.drew | apply Blk.alloc | (refine Blk.far ?_ (by (try simp) <;> omega) _))))) hb_12
  have c_12_p1_0 : w_12.cell? ⟨b_p1, 0, none⟩ = some (.int .i64 a1_0) := k_12_p1.cell 0
  have c_12_p1_1 : w_12.cell? ⟨b_p1, 1, none⟩ = some (.int .i64 a1_1) := k_12_p1.cell 1
  have c_12_p1_2 : w_12.cell? ⟨b_p1, 2, none⟩ = some (.int .i64 a1_2) := k_12_p1.cell 2
  have l_12_p1 := k_12_p1.lt
  have k_12_l1 : Blk w_12 (gs_2) 27 #[.slice (some ⟨g_2, 0, none⟩) zs.length c_2] := Blk.step (by (with_reducible (repeat (first | assumption | exact Blk.new' (by simp) | apply Blk.drewN | apply Blk.drew | apply Blk.alloc | (refine Blk.far ?_ (by (try simp) <;> omega) _))))) hb_12
  have c_12_l1_0 : w_12.cell? ⟨gs_2, 0, none⟩ = some (.slice (some ⟨g_2, 0, none⟩) zs.length c_2) := k_12_l1.cell 0
  have l_12_l1 := k_12_l1.lt
  have k_12_l2 : Blk w_12 (b_l2) 27 #[.slice (some ⟨g_3, 0, none⟩) len0 len0] := Blk.step (by (with_reducible (repeat (first | assumption | exact Blk.new' (by simp) | apply Blk.drewN | apply Blk.drew | apply Blk.alloc | (refine Blk.far ?_ (by (try simp) <;> omega) _))))) hb_12
  have c_12_l2_0 : w_12.cell? ⟨b_l2, 0, none⟩ = some (.slice (some ⟨g_3, 0, none⟩) len0 len0) := k_12_l2.cell 0
  have l_12_l2 := k_12_l2.lt
  have k_12_l3 : Blk w_12 (gs_5) 27 #[.slice (some ⟨g_5, 0, none⟩) zs.length c_5] := Blk.step (by (with_reducible (repeat (first | assumption | exact Blk.new' (by simp) | apply Blk.drewN | apply Blk.drew | apply Blk.alloc | (refine Blk.far ?_ (by (try simp) <;> omega) _))))) hb_12
  have c_12_l3_0 : w_12.cell? ⟨gs_5, 0, none⟩ = some (.slice (some ⟨g_5, 0, none⟩) zs.length c_5) := k_12_l3.cell 0
  have l_12_l3 := k_12_l3.lt
  have o_12_X2 : OwnC w_12 g_3 (len0) len0 (marksI (1) (len0)) := OwnC.step (by (with_reducible (repeat (first | assumption | apply OwnC.drewN | apply OwnC.drew | apply OwnC.alloc)))) hb_12
  have o_12_X3 : OwnC w_12 g_5 (zs.length) c_5 (marksI (1) (zs.length)) := OwnC.step (by (with_reducible (repeat (first | assumption | apply OwnC.drewN | apply OwnC.drew | apply OwnC.alloc)))) hb_12
  clear j_11 k_11_p0 c_11_p0_0 l_11_p0 k_11_p1 c_11_p1_0 c_11_p1_1 c_11_p1_2 l_11_p1 k_11_l1 c_11_l1_0 l_11_l1 k_11_l2 c_11_l2_0 l_11_l2 k_11_l3 c_11_l3_0 l_11_l3 o_11_X2 o_11_X3 hb_11
  have k_12_l4 : Blk w_12 (gs_12) 27 #[.slice (some ⟨g_12, 0, none⟩) zs.length c_12] := kb_12
  have c_12_l4_0 : w_12.cell? ⟨gs_12, 0, none⟩ = some (.slice (some ⟨g_12, 0, none⟩) zs.length c_12) := k_12_l4.cell 0
  clear kb_12 hn_12 hgs_12
  clear hBl_11 hBg_11
  go_wp2_with fail
  refine (eqStock_c (some ⟨g_12, 0, none⟩) (some ⟨g_2, 0, none⟩) (zs.length) c_12 c_2 zs _ (by (try unfold maxLen); omega) (by exact OwnC.reads (by (with_reducible (repeat (first | assumption | apply OwnC.drewN | apply OwnC.drew | apply OwnC.alloc))))) (by exact HW.out.below (In.below (by (repeat (first | exact In.refl _ | assumption | apply In.alloc | apply In.drewN | apply In.drew | (refine In.step ?_ (by assumption)))))) (Nat.le_refl _))).mono ?_
  rintro _ w_13 ⟨rfl, hb_13⟩
  have j_13 : In w_2.heap.size w_2 w_13 := In.step (by (repeat (first | exact In.refl _ | assumption | apply In.alloc | apply In.drewN | apply In.drew | (refine In.step ?_ (by assumption))))) hb_13
  have k_13_p0 : Blk w_13 (b_p0) 24 #[.slice a0 len0 cap0] := Blk.step (by (with_reducible (repeat (first | assumption | exact Blk.new' (by simp) | apply Blk.drewN | apply Blk.drew | apply Blk.alloc | (refine Blk.far ?_ (by (try simp) <;> omega) _))))) hb_13
  have c_13_p0_0 : w_13.cell? ⟨b_p0, 0, none⟩ = some (.slice a0 len0 cap0) := k_13_p0.cell 0
  have l_13_p0 := k_13_p0.lt
  have k_13_p1 : Blk w_13 (b_p1) 32 #[.int .i64 a1_0, .int .i64 a1_1, .int .i64 a1_2] := Blk.step (by (with_reducible (repeat (first | assumption | exact Blk.new' (by simp) | apply Blk.drewN | apply Blk.drew | apply Blk.alloc | (refine Blk.far ?_ (by (try simp) <;> omega) _))))) hb_13
  have c_13_p1_0 : w_13.cell? ⟨b_p1, 0, none⟩ = some (.int .i64 a1_0) := k_13_p1.cell 0
  have c_13_p1_1 : w_13.cell? ⟨b_p1, 1, none⟩ = some (.int .i64 a1_1) := k_13_p1.cell 1
  have c_13_p1_2 : w_13.cell? ⟨b_p1, 2, none⟩ = some (.int .i64 a1_2) := k_13_p1.cell 2
  have l_13_p1 := k_13_p1.lt
  have k_13_l1 : Blk w_13 (gs_2) 27 #[.slice (some ⟨g_2, 0, none⟩) zs.length c_2] := Blk.step (by (with_reducible (repeat (first | assumption | exact Blk.new' (by simp) | apply Blk.drewN | apply Blk.drew | apply Blk.alloc | (refine Blk.far ?_ (by (try simp) <;> omega) _))))) hb_13
  have c_13_l1_0 : w_13.cell? ⟨gs_2, 0, none⟩ = some (.slice (some ⟨g_2, 0, none⟩) zs.length c_2) := k_13_l1.cell 0
  have l_13_l1 := k_13_l1.lt
  have k_13_l2 : Blk w_13 (b_l2) 27 #[.slice (some ⟨g_3, 0, none⟩) len0 len0] := Blk.step (by (with_reducible (repeat (first | assumption | exact Blk.new' (by simp) | apply Blk.drewN | apply Blk.drew | apply Blk.alloc | (refine Blk.far ?_ (by (try simp) <;> omega) _))))) hb_13
  have c_13_l2_0 : w_13.cell? ⟨b_l2, 0, none⟩ = some (.slice (some ⟨g_3, 0, none⟩) len0 len0) := k_13_l2.cell 0
  have l_13_l2 := k_13_l2.lt
  have k_13_l3 : Blk w_13 (gs_5) 27 #[.slice (some ⟨g_5, 0, none⟩) zs.length c_5] := Blk.step (by (with_reducible (repeat (first | assumption | exact Blk.new' (by simp) | apply Blk.drewN | apply Blk.drew | apply Blk.alloc | (refine Blk.far ?_ (by (try simp) <;> omega) _))))) hb_13
  have c_13_l3_0 : w_13.cell? ⟨gs_5, 0, none⟩ = some (.slice (some ⟨g_5, 0, none⟩) zs.length c_5) := k_13_l3.cell 0
  have l_13_l3 := k_13_l3.lt
  have k_13_l4 : Blk w_13 (gs_12) 27 #[.slice (some ⟨g_12, 0, none⟩) zs.length c_12] := Blk.step (by (with_reducible (repeat (first | assumption | exact Blk.new' (by simp) | apply Blk.drewN | apply Blk.drew | apply Blk.alloc | (refine Blk.far ?_ (by (try simp) <;> omega) _))))) hb_13
  have c_13_l4_0 : w_13.cell? ⟨gs_12, 0, none⟩ = some (.slice (some ⟨g_12, 0, none⟩) zs.length c_12) := k_13_l4.cell 0
  have l_13_l4 := k_13_l4.lt
  have o_13_X2 : OwnC w_13 g_3 (len0) len0 (marksI (1) (len0)) := OwnC.step (by (with_reducible (repeat (first | assumption | apply OwnC.drewN | apply OwnC.drew | apply OwnC.alloc)))) hb_13
  have o_13_X3 : OwnC w_13 g_5 (zs.length) c_5 (marksI (1) (zs.length)) := OwnC.step (by (with_reducible (repeat (first | assumption | apply OwnC.drewN | apply OwnC.drew | apply OwnC.alloc)))) hb_13
  have o_13_X4 : OwnC w_13 g_12 (zs.length) c_12 zs := OwnC.step (by (with_reducible (repeat (first | assumption | apply OwnC.drewN | apply OwnC.drew | apply OwnC.alloc)))) hb_13
  clear j_12 k_12_p0 c_12_p0_0 l_12_p0 k_12_p1 c_12_p1_0 c_12_p1_1 c_12_p1_2 l_12_p1 k_12_l1 c_12_l1_0 l_12_l1 k_12_l2 c_12_l2_0 l_12_l2 k_12_l3 c_12_l3_0 l_12_l3 o_12_X2 o_12_X3 o_12_X4 hb_12 k_12_l4 c_12_l4_0
  go_wp2_with fail
  refine (heldStock_c (some ⟨g_5, 0, none⟩) (zs.length) c_5 (1) _ (by omega) (by omega) (by exact OwnC.reads (by (with_reducible (repeat (first | assumption | apply OwnC.drewN | apply OwnC.drew | apply OwnC.alloc)))))).mono ?_
  rintro _ w_14 ⟨rfl, hb_14⟩
  have j_14 : In w_2.heap.size w_2 w_14 := In.step (by (repeat (first | exact In.refl _ | assumption | apply In.alloc | apply In.drewN | apply In.drew | (refine In.step ?_ (by assumption))))) hb_14
  have k_14_p0 : Blk w_14 (b_p0) 24 #[.slice a0 len0 cap0] := Blk.step (by (with_reducible (repeat (first | assumption | exact Blk.new' (by simp) | apply Blk.drewN | apply Blk.drew | apply Blk.alloc | (refine Blk.far ?_ (by (try simp) <;> omega) _))))) hb_14
  have c_14_p0_0 : w_14.cell? ⟨b_p0, 0, none⟩ = some (.slice a0 len0 cap0) := k_14_p0.cell 0
  have l_14_p0 := k_14_p0.lt
  have k_14_p1 : Blk w_14 (b_p1) 32 #[.int .i64 a1_0, .int .i64 a1_1, .int .i64 a1_2] := Blk.step (by (with_reducible (repeat (first | assumption | exact Blk.new' (by simp) | apply Blk.drewN | apply Blk.drew | apply Blk.alloc | (refine Blk.far ?_ (by (try simp) <;> omega) _))))) hb_14
  have c_14_p1_0 : w_14.cell? ⟨b_p1, 0, none⟩ = some (.int .i64 a1_0) := k_14_p1.cell 0
  have c_14_p1_1 : w_14.cell? ⟨b_p1, 1, none⟩ = some (.int .i64 a1_1) := k_14_p1.cell 1
  have c_14_p1_2 : w_14.cell? ⟨b_p1, 2, none⟩ = some (.int .i64 a1_2) := k_14_p1.cell 2
  have l_14_p1 := k_14_p1.lt
  have k_14_l1 : Blk w_14 (gs_2) 27 #[.slice (some ⟨g_2, 0, none⟩) zs.length c_2] := Blk.step (by (with_reducible (repeat (first | assumption | exact Blk.new' (by simp) | apply Blk.drewN | apply Blk.drew | apply Blk.alloc | (refine Blk.far ?_ (by (try simp) <;> omega) _))))) hb_14
  have c_14_l1_0 : w_14.cell? ⟨gs_2, 0, none⟩ = some (.slice (some ⟨g_2, 0, none⟩) zs.length c_2) := k_14_l1.cell 0
  have l_14_l1 := k_14_l1.lt
  have k_14_l2 : Blk w_14 (b_l2) 27 #[.slice (some ⟨g_3, 0, none⟩) len0 len0] := Blk.step (by (with_reducible (repeat (first | assumption | exact Blk.new' (by simp) | apply Blk.drewN | apply Blk.drew | apply Blk.alloc | (refine Blk.far ?_ (by (try simp) <;> omega) _))))) hb_14
  have c_14_l2_0 : w_14.cell? ⟨b_l2, 0, none⟩ = some (.slice (some ⟨g_3, 0, none⟩) len0 len0) := k_14_l2.cell 0
  have l_14_l2 := k_14_l2.lt
  have k_14_l3 : Blk w_14 (gs_5) 27 #[.slice (some ⟨g_5, 0, none⟩) zs.length c_5] := Blk.step (by (with_reducible (repeat (first | assumption | exact Blk.new' (by simp) | apply Blk.drewN | apply Blk.drew | apply Blk.alloc | (refine Blk.far ?_ (by (try simp) <;> omega) _))))) hb_14
  have c_14_l3_0 : w_14.cell? ⟨gs_5, 0, none⟩ = some (.slice (some ⟨g_5, 0, none⟩) zs.length c_5) := k_14_l3.cell 0
  have l_14_l3 := k_14_l3.lt
  have k_14_l4 : Blk w_14 (gs_12) 27 #[.slice (some ⟨g_12, 0, none⟩) zs.length c_12] := Blk.step (by (with_reducible (repeat (first | assumption | exact Blk.new' (by simp) | apply Blk.drewN | apply Blk.drew | apply Blk.alloc | (refine Blk.far ?_ (by (try simp) <;> omega) _))))) hb_14
  have c_14_l4_0 : w_14.cell? ⟨gs_12, 0, none⟩ = some (.slice (some ⟨g_12, 0, none⟩) zs.length c_12) := k_14_l4.cell 0
  have l_14_l4 := k_14_l4.lt
  have o_14_X2 : OwnC w_14 g_3 (len0) len0 (marksI (1) (len0)) := OwnC.step (by (with_reducible (repeat (first | assumption | apply OwnC.drewN | apply OwnC.drew | apply OwnC.alloc)))) hb_14
  have o_14_X3 : OwnC w_14 g_5 (zs.length) c_5 (marksI (1) (zs.length)) := OwnC.step (by (with_reducible (repeat (first | assumption | apply OwnC.drewN | apply OwnC.drew | apply OwnC.alloc)))) hb_14
  have o_14_X4 : OwnC w_14 g_12 (zs.length) c_12 zs := OwnC.step (by (with_reducible (repeat (first | assumption | apply OwnC.drewN | apply OwnC.drew | apply OwnC.alloc)))) hb_14
  clear j_13 k_13_p0 c_13_p0_0 l_13_p0 k_13_p1 c_13_p1_0 c_13_p1_1 c_13_p1_2 l_13_p1 k_13_l1 c_13_l1_0 l_13_l1 k_13_l2 c_13_l2_0 l_13_l2 k_13_l3 c_13_l3_0 l_13_l3 k_13_l4 c_13_l4_0 l_13_l4 o_13_X2 o_13_X3 o_13_X4 hb_13
  go_wp2
  go_ret
  exact (show Val _ _ _ _ from Val.mk' rfl (IC.out.trans (by (repeat (first | exact In.refl _ | assumption | apply In.alloc | apply In.drewN | apply In.drew | (refine In.step ?_ (by assumption)))))))
end Go.Proofs.Ythadanmiomeehaa
