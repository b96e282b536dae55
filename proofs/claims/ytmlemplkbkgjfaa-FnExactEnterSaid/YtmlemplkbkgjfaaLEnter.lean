/- The law of Enter. -/
import Derived.Test.YtmlemplkbkgjfaaEn37
import Derived.Test.YtmlemplkbkgjfaaOpBook
import Derived.Test.YtmlemplkbkgjfaaInv2
import Derived.Test.YtmlemplkbkgjfaaOwnC
namespace Go.Proofs.Ytmlemplkbkgjfaa
open Go.ChangeShapes Go.WideShapes Go.ChangeAt Go.RowKit
set_option linter.unusedVariables false
set_option linter.unusedSimpArgs false
def JIEntera (w0 : World) (zs0 : List EventR) (r0 : Int) (r1 : Int) (r2 : Int) (r3 : Int) (r4 : Int) (r5 : Int) (f0v : Bool) (A0 : Option Addr) (n0 : Nat) (c0 : Nat) (z0 : List EventR) (a0_0 : Int) (a0_1 : Int) (a0_2 : Int) (a0_3 : Int) (a0_4 : Int) (a0_5 : Int) (a1_0 : Int) (a1_1 : Int) (b_p1 : Nat) (b_p0 : Nat) (a : Act) (w : World) : Prop := (∃ f : Nat → Value, a = ⟨#[Value.agg #[Value.slice A0 n0 c0, Value.int IntKind.i64 a0_0, Value.int IntKind.i64 a0_1, Value.int IntKind.i64 a0_2, Value.int IntKind.i64 a0_3, Value.int IntKind.i64 a0_4, Value.int IntKind.i64 a0_5], Value.agg #[Value.int IntKind.i64 a1_0, Value.int IntKind.i64 a1_1], Value.pointer (some { block := b_p0, off := 0 }), Value.pointer (some { block := b_p1, off := 0 }), Value.bool false, Value.int IntKind.i64 (1048576 - ((n0 : Nat) : Int)), f 6, f 7, undef, undef, undef, undef, undef, undef, undef, undef, Value.agg #[Value.slice A0 n0 c0, Value.int IntKind.i64 a0_0, Value.int IntKind.i64 a0_1, Value.int IntKind.i64 a0_2, Value.int IntKind.i64 a0_3, Value.int IntKind.i64 a0_4, Value.int IntKind.i64 a0_5], Value.int IntKind.i64 1048576, Value.int IntKind.i64 (1048576 - ((n0 : Nat) : Int)), Value.int IntKind.i64 (1048576 - ((n0 : Nat) : Int)), Value.bool (decide (1048576 - ((n0 : Nat) : Int) < 0)), f 21, f 22, f 23, f 24, f 25, f 26, f 27, f 28, undef, undef, undef, undef, undef, undef, undef, undef, undef, undef, undef, undef, undef, undef, undef, undef, undef, undef, undef, undef, undef, undef, undef, undef, undef, undef, undef, undef, undef, undef, undef, undef, undef, undef, undef, undef, undef, undef, undef, undef, undef, undef, undef, undef, undef, undef, undef, undef, undef, undef, undef, undef, undef, undef, undef, undef, undef, undef, undef, undef, undef, undef, undef, undef, undef, undef, undef, undef, undef, undef, undef, undef, undef, undef, undef], []⟩) ∧ In w0.heap.size w0 w
def JFEntera (B : Nat) (zs0 : List EventR) (r0 : Int) (r1 : Int) (r2 : Int) (r3 : Int) (r4 : Int) (r5 : Int) (f0v : Bool) (A0 : Option Addr) (n0 : Nat) (c0 : Nat) (z0 : List EventR) (a0_0 : Int) (a0_1 : Int) (a0_2 : Int) (a0_3 : Int) (a0_4 : Int) (a0_5 : Int) (a1_0 : Int) (a1_1 : Int) (b_p1 : Nat) (b_p0 : Nat) : Nat → Act → World → Prop
  | 0, a, w => a.tmps[22]? = some (.agg #[.slice A0 n0 c0, .int .i64 a0_0, .int .i64 a0_1, .int .i64 a0_2, .int .i64 a0_3, .int .i64 a0_4, .int .i64 a0_5])
  | 1, a, w => ∃ (g0 c0 : Nat), a.tmps[23]? = some (.agg #[.slice (some ⟨g0, 0, none⟩) n0 c0, .int .i64 a0_0, .int .i64 a0_1, .int .i64 a0_2, .int .i64 a0_3, .int .i64 a0_4, .int .i64 a0_5]) ∧ B ≤ g0 ∧ OCEvent w g0 n0 c0 z0
  | 2, a, w => a.tmps[24]? = some (.agg #[.int .i64 a1_0, .int .i64 a1_1])
  | 3, a, w => a.tmps[25]? = some (.agg #[.int .i64 a1_0, .int .i64 a1_1])
  | 4, a, w => ∃ (g0 c0 : Nat), a.tmps[26]? = some (.tuple #[.agg #[.slice (some ⟨g0, 0, none⟩) zs0.length c0, .int .i64 r0, .int .i64 r1, .int .i64 r2, .int .i64 r3, .int .i64 r4, .int .i64 r5], .bool f0v]) ∧ B ≤ g0 ∧ OCEvent w g0 zs0.length c0 zs0
  | 5, a, w => ∃ (g0 c0 : Nat), a.tmps[21]? = some (.tuple #[.agg #[.slice (some ⟨g0, 0, none⟩) zs0.length c0, .int .i64 r0, .int .i64 r1, .int .i64 r2, .int .i64 r3, .int .i64 r4, .int .i64 r5], .bool f0v]) ∧ B ≤ g0 ∧ OCEvent w g0 zs0.length c0 zs0
  | 6, a, w => ∃ (g0 c0 : Nat), a.tmps[27]? = some (.agg #[.slice (some ⟨g0, 0, none⟩) zs0.length c0, .int .i64 r0, .int .i64 r1, .int .i64 r2, .int .i64 r3, .int .i64 r4, .int .i64 r5]) ∧ B ≤ g0 ∧ OCEvent w g0 zs0.length c0 zs0
  | 7, a, w => a.tmps[28]? = some (.bool f0v)
  | 8, a, w => ∃ gs X0 X1 X2 X3 X4 X5 X6, B ≤ gs ∧ a.tmps[6]? = some (.pointer (some ⟨gs, 0, none⟩)) ∧ Blk w gs 51 #[X0, X1, X2, X3, X4, X5, X6]
  | 9, a, w => ∃ (gs g0 c0 : Nat), B ≤ gs ∧ a.tmps[6]? = some (.pointer (some ⟨gs, 0, none⟩)) ∧ Blk w gs 51 #[.slice (some ⟨g0, 0, none⟩) zs0.length c0, .int .i64 r0, .int .i64 r1, .int .i64 r2, .int .i64 r3, .int .i64 r4, .int .i64 r5] ∧ B ≤ g0 ∧ OCEvent w g0 zs0.length c0 zs0
  | 10, a, w => a.tmps[7]? = some (.bool f0v)
  | _, _, _ => True
def JIEnterb (w0 : World) (zs0 : List EventR) (r0 : Int) (r1 : Int) (r2 : Int) (r3 : Int) (r4 : Int) (r5 : Int) (f0v : Bool) (A0 : Option Addr) (n0 : Nat) (c0 : Nat) (a0_0 : Int) (a0_1 : Int) (a0_2 : Int) (a0_3 : Int) (a0_4 : Int) (a0_5 : Int) (a1_0 : Int) (a1_1 : Int) (b_p1 : Nat) (b_p0 : Nat) (ha : Nat → Value) (gs_2 : Nat) (g0_3 : Nat) (b_l2 : Nat) (a : Act) (w : World) : Prop := (∃ f : Nat → Value, a = ⟨#[Value.agg #[Value.slice A0 n0 c0, Value.int IntKind.i64 a0_0, Value.int IntKind.i64 a0_1, Value.int IntKind.i64 a0_2, Value.int IntKind.i64 a0_3, Value.int IntKind.i64 a0_4, Value.int IntKind.i64 a0_5], Value.agg #[Value.int IntKind.i64 a1_0, Value.int IntKind.i64 a1_1], Value.pointer (some { block := b_p0, off := 0 }), Value.pointer (some { block := b_p1, off := 0 }), Value.bool false, Value.int IntKind.i64 (1048576 - ((n0 : Nat) : Int)), Value.pointer (some { block := gs_2, off := 0 }), Value.bool f0v, Value.pointer (some { block := b_l2, off := 0 }), f 9, f 10, undef, undef, undef, undef, undef, Value.agg #[Value.slice A0 n0 c0, Value.int IntKind.i64 a0_0, Value.int IntKind.i64 a0_1, Value.int IntKind.i64 a0_2, Value.int IntKind.i64 a0_3, Value.int IntKind.i64 a0_4, Value.int IntKind.i64 a0_5], Value.int IntKind.i64 1048576, Value.int IntKind.i64 (1048576 - ((n0 : Nat) : Int)), Value.int IntKind.i64 (1048576 - ((n0 : Nat) : Int)), Value.bool (decide (1048576 - ((n0 : Nat) : Int) < 0)), ha 21, ha 22, ha 23, ha 24, ha 25, ha 26, ha 27, ha 28, Value.agg #[Value.slice A0 n0 c0, Value.int IntKind.i64 a0_0, Value.int IntKind.i64 a0_1, Value.int IntKind.i64 a0_2, Value.int IntKind.i64 a0_3, Value.int IntKind.i64 a0_4, Value.int IntKind.i64 a0_5], Value.agg #[Value.slice (some { block := g0_3, off := 0 }) n0 n0, Value.int IntKind.i64 a0_0, Value.int IntKind.i64 a0_1, Value.int IntKind.i64 a0_2, Value.int IntKind.i64 a0_3, Value.int IntKind.i64 a0_4, Value.int IntKind.i64 a0_5], f 31, f 32, f 33, f 34, f 35, f 36, f 37, undef, undef, undef, undef, undef, undef, undef, undef, undef, undef, undef, undef, undef, undef, undef, undef, undef, undef, undef, undef, undef, undef, undef, undef, undef, undef, undef, undef, undef, undef, undef, undef, undef, undef, undef, undef, undef, undef, undef, undef, undef, undef, undef, undef, undef, undef, undef, undef, undef, undef, undef, undef, undef, undef, undef, undef, undef, undef, undef, undef, undef, undef, undef, undef, undef, undef], []⟩) ∧ In w0.heap.size w0 w
def JFEnterb (B : Nat) (zs0 : List EventR) (r0 : Int) (r1 : Int) (r2 : Int) (r3 : Int) (r4 : Int) (r5 : Int) (f0v : Bool) (A0 : Option Addr) (n0 : Nat) (c0 : Nat) (a0_0 : Int) (a0_1 : Int) (a0_2 : Int) (a0_3 : Int) (a0_4 : Int) (a0_5 : Int) (a1_0 : Int) (a1_1 : Int) (b_p1 : Nat) (b_p0 : Nat) (ha : Nat → Value) (gs_2 : Nat) (g0_3 : Nat) (b_l2 : Nat) : Nat → Act → World → Prop
  | 0, a, w => a.tmps[32]? = some (.agg #[.slice (some ⟨g0_3, 0, none⟩) n0 n0, .int .i64 a0_0, .int .i64 a0_1, .int .i64 a0_2, .int .i64 a0_3, .int .i64 a0_4, .int .i64 a0_5])
  | 1, a, w => a.tmps[33]? = some (.agg #[.int .i64 a1_0, .int .i64 a1_1])
  | 2, a, w => a.tmps[34]? = some (.agg #[.int .i64 a1_0, .int .i64 a1_1])
  | 3, a, w => ∃ (g0 c0 : Nat), a.tmps[35]? = some (.tuple #[.agg #[.slice (some ⟨g0, 0, none⟩) zs0.length c0, .int .i64 r0, .int .i64 r1, .int .i64 r2, .int .i64 r3, .int .i64 r4, .int .i64 r5], .bool f0v]) ∧ B ≤ g0 ∧ OCEvent w g0 zs0.length c0 zs0
  | 4, a, w => ∃ (g0 c0 : Nat), a.tmps[31]? = some (.tuple #[.agg #[.slice (some ⟨g0, 0, none⟩) zs0.length c0, .int .i64 r0, .int .i64 r1, .int .i64 r2, .int .i64 r3, .int .i64 r4, .int .i64 r5], .bool f0v]) ∧ B ≤ g0 ∧ OCEvent w g0 zs0.length c0 zs0
  | 5, a, w => ∃ (g0 c0 : Nat), a.tmps[36]? = some (.agg #[.slice (some ⟨g0, 0, none⟩) zs0.length c0, .int .i64 r0, .int .i64 r1, .int .i64 r2, .int .i64 r3, .int .i64 r4, .int .i64 r5]) ∧ B ≤ g0 ∧ OCEvent w g0 zs0.length c0 zs0
  | 6, a, w => a.tmps[37]? = some (.bool f0v)
  | 7, a, w => ∃ gs X0 X1 X2 X3 X4 X5 X6, B ≤ gs ∧ a.tmps[9]? = some (.pointer (some ⟨gs, 0, none⟩)) ∧ Blk w gs 51 #[X0, X1, X2, X3, X4, X5, X6]
  | 8, a, w => ∃ (gs g0 c0 : Nat), B ≤ gs ∧ a.tmps[9]? = some (.pointer (some ⟨gs, 0, none⟩)) ∧ Blk w gs 51 #[.slice (some ⟨g0, 0, none⟩) zs0.length c0, .int .i64 r0, .int .i64 r1, .int .i64 r2, .int .i64 r3, .int .i64 r4, .int .i64 r5] ∧ B ≤ g0 ∧ OCEvent w g0 zs0.length c0 zs0
  | 9, a, w => a.tmps[10]? = some (.bool f0v)
  | _, _, _ => True
def JIEnterc (w0 : World) (zs0 : List EventR) (r0 : Int) (r1 : Int) (r2 : Int) (r3 : Int) (r4 : Int) (r5 : Int) (f0v : Bool) (A0 : Option Addr) (n0 : Nat) (c0 : Nat) (z0 : List EventR) (a0_0 : Int) (a0_1 : Int) (a0_2 : Int) (a0_3 : Int) (a0_4 : Int) (a0_5 : Int) (a1_0 : Int) (a1_1 : Int) (b_p1 : Nat) (b_p0 : Nat) (ha : Nat → Value) (gs_2 : Nat) (g0_2 : Nat) (c0_2 : Nat) (g0_3 : Nat) (b_l2 : Nat) (hb : Nat → Value) (gs_5 : Nat) (g0_5 : Nat) (c0_5 : Nat) (a : Act) (w : World) : Prop := (∃ f : Nat → Value, a = ⟨#[Value.agg #[Value.slice A0 n0 c0, Value.int IntKind.i64 a0_0, Value.int IntKind.i64 a0_1, Value.int IntKind.i64 a0_2, Value.int IntKind.i64 a0_3, Value.int IntKind.i64 a0_4, Value.int IntKind.i64 a0_5], Value.agg #[Value.int IntKind.i64 a1_0, Value.int IntKind.i64 a1_1], Value.pointer (some { block := b_p0, off := 0 }), Value.pointer (some { block := b_p1, off := 0 }), Value.bool false, Value.int IntKind.i64 (1048576 - ((n0 : Nat) : Int)), Value.pointer (some { block := gs_2, off := 0 }), Value.bool f0v, Value.pointer (some { block := b_l2, off := 0 }), Value.pointer (some { block := gs_5, off := 0 }), Value.bool f0v, undef, undef, undef, undef, undef, Value.agg #[Value.slice A0 n0 c0, Value.int IntKind.i64 a0_0, Value.int IntKind.i64 a0_1, Value.int IntKind.i64 a0_2, Value.int IntKind.i64 a0_3, Value.int IntKind.i64 a0_4, Value.int IntKind.i64 a0_5], Value.int IntKind.i64 1048576, Value.int IntKind.i64 (1048576 - ((n0 : Nat) : Int)), Value.int IntKind.i64 (1048576 - ((n0 : Nat) : Int)), Value.bool (decide (1048576 - ((n0 : Nat) : Int) < 0)), ha 21, ha 22, ha 23, ha 24, ha 25, ha 26, ha 27, ha 28, Value.agg #[Value.slice A0 n0 c0, Value.int IntKind.i64 a0_0, Value.int IntKind.i64 a0_1, Value.int IntKind.i64 a0_2, Value.int IntKind.i64 a0_3, Value.int IntKind.i64 a0_4, Value.int IntKind.i64 a0_5], Value.agg #[Value.slice (some { block := g0_3, off := 0 }) n0 n0, Value.int IntKind.i64 a0_0, Value.int IntKind.i64 a0_1, Value.int IntKind.i64 a0_2, Value.int IntKind.i64 a0_3, Value.int IntKind.i64 a0_4, Value.int IntKind.i64 a0_5], hb 31, hb 32, hb 33, hb 34, hb 35, hb 36, hb 37, Value.agg #[Value.slice (some { block := g0_5, off := 0 }) zs0.length c0_5, Value.int IntKind.i64 r0, Value.int IntKind.i64 r1, Value.int IntKind.i64 r2, Value.int IntKind.i64 r3, Value.int IntKind.i64 r4, Value.int IntKind.i64 r5], Value.agg #[Value.slice (some { block := g0_2, off := 0 }) zs0.length c0_2, Value.int IntKind.i64 r0, Value.int IntKind.i64 r1, Value.int IntKind.i64 r2, Value.int IntKind.i64 r3, Value.int IntKind.i64 r4, Value.int IntKind.i64 r5], Value.bool true, Value.bool false, Value.bool false, Value.bool f0v, Value.bool f0v, Value.bool false, Value.bool false, f 47, f 48, f 49, f 50, f 51, undef, undef, undef, undef, undef, undef, undef, undef, undef, undef, undef, undef, undef, undef, undef, undef, undef, undef, undef, undef, undef, undef, undef, undef, undef, undef, undef, undef, undef, undef, undef, undef, undef, undef, undef, undef, undef, undef, undef, undef, undef, undef, undef, undef, undef, undef, undef, undef, undef, undef, undef, undef], []⟩) ∧ In w0.heap.size w0 w
def JFEnterc (B : Nat) (zs0 : List EventR) (r0 : Int) (r1 : Int) (r2 : Int) (r3 : Int) (r4 : Int) (r5 : Int) (f0v : Bool) (A0 : Option Addr) (n0 : Nat) (c0 : Nat) (z0 : List EventR) (a0_0 : Int) (a0_1 : Int) (a0_2 : Int) (a0_3 : Int) (a0_4 : Int) (a0_5 : Int) (a1_0 : Int) (a1_1 : Int) (b_p1 : Nat) (b_p0 : Nat) (ha : Nat → Value) (gs_2 : Nat) (g0_2 : Nat) (c0_2 : Nat) (g0_3 : Nat) (b_l2 : Nat) (hb : Nat → Value) (gs_5 : Nat) (g0_5 : Nat) (c0_5 : Nat) : Nat → Act → World → Prop
  | 0, a, w => a.tmps[47]? = some (.agg #[.slice (some ⟨g0_3, 0, none⟩) n0 n0, .int .i64 a0_0, .int .i64 a0_1, .int .i64 a0_2, .int .i64 a0_3, .int .i64 a0_4, .int .i64 a0_5])
  | 1, a, w => a.tmps[48]? = some (.agg #[.slice A0 n0 c0, .int .i64 a0_0, .int .i64 a0_1, .int .i64 a0_2, .int .i64 a0_3, .int .i64 a0_4, .int .i64 a0_5])
  | 2, a, w => ∃ (g0 c0 : Nat), a.tmps[49]? = some (.agg #[.slice (some ⟨g0, 0, none⟩) n0 c0, .int .i64 a0_0, .int .i64 a0_1, .int .i64 a0_2, .int .i64 a0_3, .int .i64 a0_4, .int .i64 a0_5]) ∧ B ≤ g0 ∧ OCEvent w g0 n0 c0 z0
  | 3, a, w => a.tmps[50]? = some (.bool true)
  | 4, a, w => a.tmps[51]? = some (.bool false)
  | _, _, _ => True
def JIEnterd (w0 : World) (zs0 : List EventR) (r0 : Int) (r1 : Int) (r2 : Int) (r3 : Int) (r4 : Int) (r5 : Int) (f0v : Bool) (A0 : Option Addr) (n0 : Nat) (c0 : Nat) (z0 : List EventR) (a0_0 : Int) (a0_1 : Int) (a0_2 : Int) (a0_3 : Int) (a0_4 : Int) (a0_5 : Int) (a1_0 : Int) (a1_1 : Int) (b_p1 : Nat) (b_p0 : Nat) (ha : Nat → Value) (gs_2 : Nat) (g0_2 : Nat) (c0_2 : Nat) (g0_3 : Nat) (b_l2 : Nat) (hb : Nat → Value) (gs_5 : Nat) (g0_5 : Nat) (c0_5 : Nat) (hc : Nat → Value) (a : Act) (w : World) : Prop := (∃ f : Nat → Value, a = ⟨#[Value.agg #[Value.slice A0 n0 c0, Value.int IntKind.i64 a0_0, Value.int IntKind.i64 a0_1, Value.int IntKind.i64 a0_2, Value.int IntKind.i64 a0_3, Value.int IntKind.i64 a0_4, Value.int IntKind.i64 a0_5], Value.agg #[Value.int IntKind.i64 a1_0, Value.int IntKind.i64 a1_1], Value.pointer (some { block := b_p0, off := 0 }), Value.pointer (some { block := b_p1, off := 0 }), Value.bool false, Value.int IntKind.i64 (1048576 - ((n0 : Nat) : Int)), Value.pointer (some { block := gs_2, off := 0 }), Value.bool f0v, Value.pointer (some { block := b_l2, off := 0 }), Value.pointer (some { block := gs_5, off := 0 }), Value.bool f0v, Value.int IntKind.i64 (1 + 2 * ((n0 : Nat) : Int)), Value.int IntKind.i64 (1 + 2 * ((zs0.length : Nat) : Int)), Value.int IntKind.i64 (1 + 2 * ((zs0.length : Nat) : Int)), f 14, f 15, Value.agg #[Value.slice A0 n0 c0, Value.int IntKind.i64 a0_0, Value.int IntKind.i64 a0_1, Value.int IntKind.i64 a0_2, Value.int IntKind.i64 a0_3, Value.int IntKind.i64 a0_4, Value.int IntKind.i64 a0_5], Value.int IntKind.i64 1048576, Value.int IntKind.i64 (1048576 - ((n0 : Nat) : Int)), Value.int IntKind.i64 (1048576 - ((n0 : Nat) : Int)), Value.bool (decide (1048576 - ((n0 : Nat) : Int) < 0)), ha 21, ha 22, ha 23, ha 24, ha 25, ha 26, ha 27, ha 28, Value.agg #[Value.slice A0 n0 c0, Value.int IntKind.i64 a0_0, Value.int IntKind.i64 a0_1, Value.int IntKind.i64 a0_2, Value.int IntKind.i64 a0_3, Value.int IntKind.i64 a0_4, Value.int IntKind.i64 a0_5], Value.agg #[Value.slice (some { block := g0_3, off := 0 }) n0 n0, Value.int IntKind.i64 a0_0, Value.int IntKind.i64 a0_1, Value.int IntKind.i64 a0_2, Value.int IntKind.i64 a0_3, Value.int IntKind.i64 a0_4, Value.int IntKind.i64 a0_5], hb 31, hb 32, hb 33, hb 34, hb 35, hb 36, hb 37, Value.agg #[Value.slice (some { block := g0_5, off := 0 }) zs0.length c0_5, Value.int IntKind.i64 r0, Value.int IntKind.i64 r1, Value.int IntKind.i64 r2, Value.int IntKind.i64 r3, Value.int IntKind.i64 r4, Value.int IntKind.i64 r5], Value.agg #[Value.slice (some { block := g0_2, off := 0 }) zs0.length c0_2, Value.int IntKind.i64 r0, Value.int IntKind.i64 r1, Value.int IntKind.i64 r2, Value.int IntKind.i64 r3, Value.int IntKind.i64 r4, Value.int IntKind.i64 r5], Value.bool true, Value.bool false, Value.bool false, Value.bool f0v, Value.bool f0v, Value.bool false, Value.bool false, hc 47, hc 48, hc 49, hc 50, Value.bool false, Value.agg #[Value.slice (some { block := g0_3, off := 0 }) n0 n0, Value.int IntKind.i64 a0_0, Value.int IntKind.i64 a0_1, Value.int IntKind.i64 a0_2, Value.int IntKind.i64 a0_3, Value.int IntKind.i64 a0_4, Value.int IntKind.i64 a0_5], Value.int IntKind.i64 1, Value.int IntKind.i64 (1 + 2 * ((n0 : Nat) : Int)), Value.int IntKind.i64 (1 + 2 * ((n0 : Nat) : Int)), Value.bool (decide (1 + 2 * ((n0 : Nat) : Int) < 0)), Value.bool (decide (1 + 2 * ((n0 : Nat) : Int) < 0)), Value.agg #[Value.slice (some { block := g0_5, off := 0 }) zs0.length c0_5, Value.int IntKind.i64 r0, Value.int IntKind.i64 r1, Value.int IntKind.i64 r2, Value.int IntKind.i64 r3, Value.int IntKind.i64 r4, Value.int IntKind.i64 r5], Value.agg #[Value.slice (some { block := g0_2, off := 0 }) zs0.length c0_2, Value.int IntKind.i64 r0, Value.int IntKind.i64 r1, Value.int IntKind.i64 r2, Value.int IntKind.i64 r3, Value.int IntKind.i64 r4, Value.int IntKind.i64 r5], Value.bool true, Value.bool false, Value.bool (decide (1 + 2 * ((n0 : Nat) : Int) < 0)), Value.bool (decide (1 + 2 * ((n0 : Nat) : Int) < 0)), Value.bool f0v, Value.bool f0v, Value.bool false, Value.bool (decide (1 + 2 * ((n0 : Nat) : Int) < 0)), Value.agg #[Value.slice (some { block := g0_5, off := 0 }) zs0.length c0_5, Value.int IntKind.i64 r0, Value.int IntKind.i64 r1, Value.int IntKind.i64 r2, Value.int IntKind.i64 r3, Value.int IntKind.i64 r4, Value.int IntKind.i64 r5], Value.int IntKind.i64 1, Value.int IntKind.i64 (1 + 2 * ((zs0.length : Nat) : Int)), Value.agg #[Value.slice (some { block := g0_5, off := 0 }) zs0.length c0_5, Value.int IntKind.i64 r0, Value.int IntKind.i64 r1, Value.int IntKind.i64 r2, Value.int IntKind.i64 r3, Value.int IntKind.i64 r4, Value.int IntKind.i64 r5], Value.int IntKind.i64 1, Value.int IntKind.i64 (1 + 2 * ((zs0.length : Nat) : Int)), Value.int IntKind.i64 (1 + 2 * ((zs0.length : Nat) : Int)), Value.bool (decide (1 + 2 * ((zs0.length : Nat) : Int) < 0)), Value.int IntKind.i64 (1 + 2 * ((zs0.length : Nat) : Int)), Value.int IntKind.i64 (1 + 2 * ((zs0.length : Nat) : Int)), Value.bool false, f 79, f 80, f 81, f 82, f 83, f 84, f 85, f 86, undef, undef, undef, undef, undef, undef, undef, undef, undef, undef, undef, undef, undef, undef, undef, undef, undef], []⟩) ∧ In w0.heap.size w0 w
def JFEnterd (B : Nat) (zs0 : List EventR) (r0 : Int) (r1 : Int) (r2 : Int) (r3 : Int) (r4 : Int) (r5 : Int) (f0v : Bool) (A0 : Option Addr) (n0 : Nat) (c0 : Nat) (z0 : List EventR) (a0_0 : Int) (a0_1 : Int) (a0_2 : Int) (a0_3 : Int) (a0_4 : Int) (a0_5 : Int) (a1_0 : Int) (a1_1 : Int) (b_p1 : Nat) (b_p0 : Nat) (ha : Nat → Value) (gs_2 : Nat) (g0_2 : Nat) (c0_2 : Nat) (g0_3 : Nat) (b_l2 : Nat) (hb : Nat → Value) (gs_5 : Nat) (g0_5 : Nat) (c0_5 : Nat) (hc : Nat → Value) : Nat → Act → World → Prop
  | 0, a, w => a.tmps[80]? = some (.agg #[.slice A0 n0 c0, .int .i64 a0_0, .int .i64 a0_1, .int .i64 a0_2, .int .i64 a0_3, .int .i64 a0_4, .int .i64 a0_5])
  | 1, a, w => ∃ (g0 c0 : Nat), a.tmps[81]? = some (.agg #[.slice (some ⟨g0, 0, none⟩) n0 c0, .int .i64 a0_0, .int .i64 a0_1, .int .i64 a0_2, .int .i64 a0_3, .int .i64 a0_4, .int .i64 a0_5]) ∧ B ≤ g0 ∧ OCEvent w g0 n0 c0 z0
  | 2, a, w => a.tmps[82]? = some (.agg #[.int .i64 a1_0, .int .i64 a1_1])
  | 3, a, w => a.tmps[83]? = some (.agg #[.int .i64 a1_0, .int .i64 a1_1])
  | 4, a, w => ∃ (g0 c0 : Nat), a.tmps[84]? = some (.tuple #[.agg #[.slice (some ⟨g0, 0, none⟩) zs0.length c0, .int .i64 r0, .int .i64 r1, .int .i64 r2, .int .i64 r3, .int .i64 r4, .int .i64 r5], .bool f0v]) ∧ B ≤ g0 ∧ OCEvent w g0 zs0.length c0 zs0
  | 5, a, w => ∃ (g0 c0 : Nat), a.tmps[79]? = some (.tuple #[.agg #[.slice (some ⟨g0, 0, none⟩) zs0.length c0, .int .i64 r0, .int .i64 r1, .int .i64 r2, .int .i64 r3, .int .i64 r4, .int .i64 r5], .bool f0v]) ∧ B ≤ g0 ∧ OCEvent w g0 zs0.length c0 zs0
  | 6, a, w => ∃ (g0 c0 : Nat), a.tmps[85]? = some (.agg #[.slice (some ⟨g0, 0, none⟩) zs0.length c0, .int .i64 r0, .int .i64 r1, .int .i64 r2, .int .i64 r3, .int .i64 r4, .int .i64 r5]) ∧ B ≤ g0 ∧ OCEvent w g0 zs0.length c0 zs0
  | 7, a, w => a.tmps[86]? = some (.bool f0v)
  | 8, a, w => ∃ gs X0 X1 X2 X3 X4 X5 X6, B ≤ gs ∧ a.tmps[14]? = some (.pointer (some ⟨gs, 0, none⟩)) ∧ Blk w gs 51 #[X0, X1, X2, X3, X4, X5, X6]
  | 9, a, w => ∃ (gs g0 c0 : Nat), B ≤ gs ∧ a.tmps[14]? = some (.pointer (some ⟨gs, 0, none⟩)) ∧ Blk w gs 51 #[.slice (some ⟨g0, 0, none⟩) zs0.length c0, .int .i64 r0, .int .i64 r1, .int .i64 r2, .int .i64 r3, .int .i64 r4, .int .i64 r5] ∧ B ≤ g0 ∧ OCEvent w g0 zs0.length c0 zs0
  | 10, a, w => a.tmps[15]? = some (.bool f0v)
  | _, _, _ => True
set_option maxHeartbeats 4000000 in
theorem walk_FnExactEnter (A0 : Option Addr) (n0 c0 : Nat) (z0 : List EventR) (a0_0 : Int) (ua0_0 : (Lit.int .i64 a0_0).wf = true) (a0_1 : Int) (ua0_1 : (Lit.int .i64 a0_1).wf = true) (a0_2 : Int) (ua0_2 : (Lit.int .i64 a0_2).wf = true) (a0_3 : Int) (ua0_3 : (Lit.int .i64 a0_3).wf = true) (a0_4 : Int) (ua0_4 : (Lit.int .i64 a0_4).wf = true) (a0_5 : Int) (ua0_5 : (Lit.int .i64 a0_5).wf = true) (a1_0 : Int) (ua1_0 : (Lit.int .i64 a1_0).wf = true) (a1_1 : Int) (ua1_1 : (Lit.int .i64 a1_1).wf = true) (w : World) (m0 : n0 ≤ maxLen) (w0 : ReadsEvent w A0 n0 z0) :
    Calls Try.prog 6 #[.agg #[.slice A0 n0 c0, .int .i64 a0_0, .int .i64 a0_1, .int .i64 a0_2, .int .i64 a0_3, .int .i64 a0_4, .int .i64 a0_5], .agg #[.int .i64 a1_0, .int .i64 a1_1]] w fun e w' => e = .returned (.bool true) ∧ Below w.heap.size w w' := by
  clear ua0_0 ua0_1 ua0_2 ua0_3 ua0_4 ua0_5 ua1_0 ua1_1
  have R0 := Lib.hid w0
  have L0 := w0.1
  clear w0
  have HLL0 := Lib.hid L0
  clear L0
  by_cases g0 : (1048576 : Int) < (n0 : Int)
  · go_enter Try.func6, Try.ntmps6
    go_wp2_with fail
    refine (szBook_w A0 n0 c0 a0_0 a0_1 a0_2 a0_3 a0_4 a0_5 (1048576) _ m0 (by omega) (by omega)).mono ?_
    rintro _ w_1 ⟨rfl, hb_1⟩
    rw [if_pos (by omega)]
    have i_1 : In w.heap.size w w_1 := In.step (by (repeat (first | exact In.refl _ | assumption | apply In.alloc | apply In.drewN | apply In.drew | (refine In.step ?_ (by assumption))))) hb_1
    go_wp2
    go_ret
    exact (show Val _ _ _ _ from Val.mk' rfl (by (repeat (first | exact In.refl _ | assumption | apply In.alloc | apply In.drewN | apply In.drew | (refine In.step ?_ (by assumption))))))
  have g0' : (n0 : Int) ≤ (1048576 : Int) := by omega
  clear g0
  have hm0 : n0 ≤ 1048576 := by omega
  obtain ⟨zs0, hzs0⟩ : ∃ x, enL n0 z0 a0_0 a0_1 a0_2 a0_3 a0_4 a0_5 a1_0 a1_1 = x := ⟨_, rfl⟩
  have hzl : zs0.length ≤ 1048576 := by rw [← hzs0]; have h := enL_le (y0 := a0_0) (y1 := a0_1) (y2 := a0_2) (y3 := a0_3) (y4 := a0_4) (y5 := a0_5) (x0 := a1_0) (x1 := a1_1) R0.out.1 hm0; exact h
  obtain ⟨s9, hss9⟩ : ∃ x, enS n0 z0 a0_0 a0_1 a0_2 a0_3 a0_4 a0_5 a1_0 a1_1 = x := ⟨_, rfl⟩
  obtain ⟨r0, r1, r2, r3, r4, r5⟩ := s9
  obtain ⟨f0v, hfv9⟩ : ∃ x, enB n0 z0 a0_0 a0_1 a0_2 a0_3 a0_4 a0_5 a1_0 a1_1 = x := ⟨_, rfl⟩
  have HsC : Hid (∀ (g c : Nat) (W : World), ReadsEvent W (some ⟨g, 0, none⟩) n0 z0 → Calls Try.prog 35 #[.agg #[.slice (some ⟨g, 0, none⟩) n0 c, .int .i64 a0_0, .int .i64 a0_1, .int .i64 a0_2, .int .i64 a0_3, .int .i64 a0_4, .int .i64 a0_5], .agg #[.int .i64 a1_0, .int .i64 a1_1]] W (fun e w' => ∃ g c, e = .returned (.tuple #[.agg #[.slice (some ⟨g, 0, none⟩) zs0.length c, .int .i64 r0, .int .i64 r1, .int .i64 r2, .int .i64 r3, .int .i64 r4, .int .i64 r5], .bool f0v]) ∧ OCEvent w' g zs0.length c zs0 ∧ W.heap.size ≤ g ∧ Below W.heap.size W w')) := Lib.hid (fun g c W h => by
    have h9 := sEnter g n0 c z0 a0_0 a0_1 a0_2 a0_3 a0_4 a0_5 a1_0 a1_1 W (by omega) h
    rw [hzs0, hss9, hfv9] at h9
    exact h9)
  have HiC : Hid (∀ (g c : Nat) (W : World), ReadsEvent W (some ⟨g, 0, none⟩) n0 z0 → Calls Try.prog 37 #[.agg #[.slice (some ⟨g, 0, none⟩) n0 c, .int .i64 a0_0, .int .i64 a0_1, .int .i64 a0_2, .int .i64 a0_3, .int .i64 a0_4, .int .i64 a0_5], .agg #[.int .i64 a1_0, .int .i64 a1_1]] W (fun e w' => ∃ g c, e = .returned (.tuple #[.agg #[.slice (some ⟨g, 0, none⟩) zs0.length c, .int .i64 r0, .int .i64 r1, .int .i64 r2, .int .i64 r3, .int .i64 r4, .int .i64 r5], .bool f0v]) ∧ OCEvent w' g zs0.length c zs0 ∧ W.heap.size ≤ g ∧ Below W.heap.size W w')) := Lib.hid (fun g c W h => by
    have h9 := iEnter g n0 c z0 a0_0 a0_1 a0_2 a0_3 a0_4 a0_5 a1_0 a1_1 W (by omega) h
    rw [hzs0, hss9, hfv9] at h9
    exact h9)
  clear hzs0 hss9 hfv9
  obtain ⟨b_p0, hbx_p0⟩ : ∃ b, b = w.heap.size := ⟨_, rfl⟩
  have kk_p0 : Blk ((w.alloc (.cells #[.slice A0 n0 c0, .int .i64 a0_0, .int .i64 a0_1, .int .i64 a0_2, .int .i64 a0_3, .int .i64 a0_4, .int .i64 a0_5] 45)).alloc (.cells #[.int .i64 a1_0, .int .i64 a1_1] 57)) b_p0 45 #[.slice A0 n0 c0, .int .i64 a0_0, .int .i64 a0_1, .int .i64 a0_2, .int .i64 a0_3, .int .i64 a0_4, .int .i64 a0_5] := ((Blk.new' (w := w) (t := 45) (cs := #[.slice A0 n0 c0, .int .i64 a0_0, .int .i64 a0_1, .int .i64 a0_2, .int .i64 a0_3, .int .i64 a0_4, .int .i64 a0_5]) (g := b_p0) (by simp [hbx_p0])).alloc (.cells #[.int .i64 a1_0, .int .i64 a1_1] 57))
  obtain ⟨b_p1, hbx_p1⟩ : ∃ b, b = w.heap.size + 1 := ⟨_, rfl⟩
  have kk_p1 : Blk ((w.alloc (.cells #[.slice A0 n0 c0, .int .i64 a0_0, .int .i64 a0_1, .int .i64 a0_2, .int .i64 a0_3, .int .i64 a0_4, .int .i64 a0_5] 45)).alloc (.cells #[.int .i64 a1_0, .int .i64 a1_1] 57)) b_p1 57 #[.int .i64 a1_0, .int .i64 a1_1] := (Blk.new' (w := (w.alloc (.cells #[.slice A0 n0 c0, .int .i64 a0_0, .int .i64 a0_1, .int .i64 a0_2, .int .i64 a0_3, .int .i64 a0_4, .int .i64 a0_5] 45))) (t := 57) (cs := #[.int .i64 a1_0, .int .i64 a1_1]) (g := b_p1) (by simp [hbx_p1]))
  have hb_0 : Below w.heap.size w ((w.alloc (.cells #[.slice A0 n0 c0, .int .i64 a0_0, .int .i64 a0_1, .int .i64 a0_2, .int .i64 a0_3, .int .i64 a0_4, .int .i64 a0_5] 45)).alloc (.cells #[.int .i64 a1_0, .int .i64 a1_1] 57)) := by
    have h : In w.heap.size w ((w.alloc (.cells #[.slice A0 n0 c0, .int .i64 a0_0, .int .i64 a0_1, .int .i64 a0_2, .int .i64 a0_3, .int .i64 a0_4, .int .i64 a0_5] 45)).alloc (.cells #[.int .i64 a1_0, .int .i64 a1_1] 57)) := by (repeat (first | exact In.refl _ | assumption | apply In.alloc | apply In.drewN | apply In.drew | (refine In.step ?_ (by assumption))))
    exact h.below
  go_enter Try.func6, Try.ntmps6
  go_wp2_with fail
  rw [← hbx_p1]
  clear hbx_p1
  rw [← hbx_p0]
  clear hbx_p0
  generalize ((w.alloc (.cells #[.slice A0 n0 c0, .int .i64 a0_0, .int .i64 a0_1, .int .i64 a0_2, .int .i64 a0_3, .int .i64 a0_4, .int .i64 a0_5] 45)).alloc (.cells #[.int .i64 a1_0, .int .i64 a1_1] 57)) = w_0 at *
  have i_0 : In w.heap.size w w_0 := In.step (by (repeat (first | exact In.refl _ | assumption | apply In.alloc | apply In.drewN | apply In.drew | (refine In.step ?_ (by assumption))))) hb_0
  have k_0_p0 : Blk w_0 (b_p0) 45 #[.slice A0 n0 c0, .int .i64 a0_0, .int .i64 a0_1, .int .i64 a0_2, .int .i64 a0_3, .int .i64 a0_4, .int .i64 a0_5] := kk_p0
  have c_0_p0_0 : w_0.cell? ⟨b_p0, 0, none⟩ = some (.slice A0 n0 c0) := k_0_p0.cell 0
  have c_0_p0_1 : w_0.cell? ⟨b_p0, 1, none⟩ = some (.int .i64 a0_0) := k_0_p0.cell 1
  have c_0_p0_2 : w_0.cell? ⟨b_p0, 2, none⟩ = some (.int .i64 a0_1) := k_0_p0.cell 2
  have c_0_p0_3 : w_0.cell? ⟨b_p0, 3, none⟩ = some (.int .i64 a0_2) := k_0_p0.cell 3
  have c_0_p0_4 : w_0.cell? ⟨b_p0, 4, none⟩ = some (.int .i64 a0_3) := k_0_p0.cell 4
  have c_0_p0_5 : w_0.cell? ⟨b_p0, 5, none⟩ = some (.int .i64 a0_4) := k_0_p0.cell 5
  have c_0_p0_6 : w_0.cell? ⟨b_p0, 6, none⟩ = some (.int .i64 a0_5) := k_0_p0.cell 6
  have l_0_p0 := k_0_p0.lt
  have k_0_p1 : Blk w_0 (b_p1) 57 #[.int .i64 a1_0, .int .i64 a1_1] := kk_p1
  have c_0_p1_0 : w_0.cell? ⟨b_p1, 0, none⟩ = some (.int .i64 a1_0) := k_0_p1.cell 0
  have c_0_p1_1 : w_0.cell? ⟨b_p1, 1, none⟩ = some (.int .i64 a1_1) := k_0_p1.cell 1
  have l_0_p1 := k_0_p1.lt
  clear kk_p0 kk_p1
  go_wp2_with fail
  refine (szBook_w A0 n0 c0 a0_0 a0_1 a0_2 a0_3 a0_4 a0_5 (1048576) _ m0 (by omega) (by omega)).mono ?_
  rintro _ w_1 ⟨rfl, hb_1⟩
  rw [if_neg (by omega)]
  have i_1 : In w.heap.size w w_1 := In.step (by (repeat (first | exact In.refl _ | assumption | apply In.alloc | apply In.drewN | apply In.drew | (refine In.step ?_ (by assumption))))) hb_1
  have k_1_p0 : Blk w_1 (b_p0) 45 #[.slice A0 n0 c0, .int .i64 a0_0, .int .i64 a0_1, .int .i64 a0_2, .int .i64 a0_3, .int .i64 a0_4, .int .i64 a0_5] := Blk.step (by (with_reducible (repeat (first | assumption | exact Blk.new' (by simp) | apply Blk.drewN | apply Blk.drew | apply Blk.alloc | (refine Blk.far ?_ (by (try simp) <;> omega) _))))) hb_1
  have c_1_p0_0 : w_1.cell? ⟨b_p0, 0, none⟩ = some (.slice A0 n0 c0) := k_1_p0.cell 0
  have c_1_p0_1 : w_1.cell? ⟨b_p0, 1, none⟩ = some (.int .i64 a0_0) := k_1_p0.cell 1
  have c_1_p0_2 : w_1.cell? ⟨b_p0, 2, none⟩ = some (.int .i64 a0_1) := k_1_p0.cell 2
  have c_1_p0_3 : w_1.cell? ⟨b_p0, 3, none⟩ = some (.int .i64 a0_2) := k_1_p0.cell 3
  have c_1_p0_4 : w_1.cell? ⟨b_p0, 4, none⟩ = some (.int .i64 a0_3) := k_1_p0.cell 4
  have c_1_p0_5 : w_1.cell? ⟨b_p0, 5, none⟩ = some (.int .i64 a0_4) := k_1_p0.cell 5
  have c_1_p0_6 : w_1.cell? ⟨b_p0, 6, none⟩ = some (.int .i64 a0_5) := k_1_p0.cell 6
  have l_1_p0 := k_1_p0.lt
  have k_1_p1 : Blk w_1 (b_p1) 57 #[.int .i64 a1_0, .int .i64 a1_1] := Blk.step (by (with_reducible (repeat (first | assumption | exact Blk.new' (by simp) | apply Blk.drewN | apply Blk.drew | apply Blk.alloc | (refine Blk.far ?_ (by (try simp) <;> omega) _))))) hb_1
  have c_1_p1_0 : w_1.cell? ⟨b_p1, 0, none⟩ = some (.int .i64 a1_0) := k_1_p1.cell 0
  have c_1_p1_1 : w_1.cell? ⟨b_p1, 1, none⟩ = some (.int .i64 a1_1) := k_1_p1.cell 1
  have l_1_p1 := k_1_p1.lt
  clear i_0 k_0_p0 c_0_p0_0 c_0_p0_1 c_0_p0_2 c_0_p0_3 c_0_p0_4 c_0_p0_5 c_0_p0_6 l_0_p0 k_0_p1 c_0_p1_0 c_0_p1_1 l_0_p1 hb_0
  go_wp2_with fail
  have hBw_1 : w_1.heap.size ≤ w_1.heap.size := Nat.le_refl _
  obtain ⟨B_1, hB_1⟩ : ∃ B, B = w_1.heap.size := ⟨_, rfl⟩
  have hBl_1 : B_1 ≤ w_1.heap.size := by omega
  have hBg_1 : w_1.heap.size ≤ B_1 := by omega
  clear hBw_1 hB_1
  refine wp_region_facts2 (JIEntera w_1 zs0 r0 r1 r2 r3 r4 r5 f0v A0 n0 c0 z0 a0_0 a0_1 a0_2 a0_3 a0_4 a0_5 a1_0 a1_1 b_p1 b_p0) (JFEntera B_1 zs0 r0 r1 r2 r3 r4 r5 f0v A0 n0 c0 z0 a0_0 a0_1 a0_2 a0_3 a0_4 a0_5 a1_0 a1_1 b_p1 b_p0) (fun j => j == 9 || j == 10) (fun k j => (k == 1 && (j == 0)) || (k == 3 && (j == 2)) || (k == 4 && (j == 1 || j == 3)) || (k == 5 && (j == 4)) || (k == 6 && (j == 5)) || (k == 7 && (j == 5)) || (k == 9 && (j == 6 || j == 8)) || (k == 10 && (j == 7))) (by kernel_rfl) (by kernel_rfl) ⟨⟨fun _ => undef, rfl⟩, (In.refl _).drew⟩ ?_ ?_
  · intro a v1 i o ho hI haf
    obtain ⟨⟨f, rfl⟩, hin⟩ := hI
    have kv_p0 : Blk v1 (b_p0) 45 #[.slice A0 n0 c0, .int .i64 a0_0, .int .i64 a0_1, .int .i64 a0_2, .int .i64 a0_3, .int .i64 a0_4, .int .i64 a0_5] := Blk.step k_1_p0 hin.below
    have cv_p0_0 := kv_p0.cell 0
    have cv_p0_1 := kv_p0.cell 1
    have cv_p0_2 := kv_p0.cell 2
    have cv_p0_3 := kv_p0.cell 3
    have cv_p0_4 := kv_p0.cell 4
    have cv_p0_5 := kv_p0.cell 5
    have cv_p0_6 := kv_p0.cell 6
    have kv_p1 : Blk v1 (b_p1) 57 #[.int .i64 a1_0, .int .i64 a1_1] := Blk.step k_1_p1 hin.below
    have cv_p1_0 := kv_p1.cell 0
    have cv_p1_1 := kv_p1.cell 1
    have hi : i < 11 := by
      rcases Nat.lt_or_ge i 11 with h | h
      · exact h
      · simp [h] at ho
    suffices H : ∀ K : Act → World → Prop, (∀ a' w', ((JIEntera w_1 zs0 r0 r1 r2 r3 r4 r5 f0v A0 n0 c0 z0 a0_0 a0_1 a0_2 a0_3 a0_4 a0_5 a1_0 a1_1 b_p1 b_p0) a' w' ∧ (JFEntera B_1 zs0 r0 r1 r2 r3 r4 r5 f0v A0 n0 c0 z0 a0_0 a0_1 a0_2 a0_3 a0_4 a0_5 a1_0 a1_1 b_p1 b_p0) i a' w' ∧ ∀ j, j ≠ i → waitsT _ 6 j i = false → ((fun j => j == 9 || j == 10) j || usesB _ (fun k j => (k == 1 && (j == 0)) || (k == 3 && (j == 2)) || (k == 4 && (j == 1 || j == 3)) || (k == 5 && (j == 4)) || (k == 6 && (j == 5)) || (k == 7 && (j == 5)) || (k == 9 && (j == 6 || j == 8)) || (k == 10 && (j == 7))) i j) = true → (JFEntera B_1 zs0 r0 r1 r2 r3 r4 r5 f0v A0 n0 c0 z0 a0_0 a0_1 a0_2 a0_3 a0_4 a0_5 a1_0 a1_1 b_p1 b_p0) j ⟨#[Value.agg #[Value.slice A0 n0 c0, Value.int IntKind.i64 a0_0, Value.int IntKind.i64 a0_1, Value.int IntKind.i64 a0_2, Value.int IntKind.i64 a0_3, Value.int IntKind.i64 a0_4, Value.int IntKind.i64 a0_5], Value.agg #[Value.int IntKind.i64 a1_0, Value.int IntKind.i64 a1_1], Value.pointer (some { block := b_p0, off := 0 }), Value.pointer (some { block := b_p1, off := 0 }), Value.bool false, Value.int IntKind.i64 (1048576 - ((n0 : Nat) : Int)), f 6, f 7, undef, undef, undef, undef, undef, undef, undef, undef, Value.agg #[Value.slice A0 n0 c0, Value.int IntKind.i64 a0_0, Value.int IntKind.i64 a0_1, Value.int IntKind.i64 a0_2, Value.int IntKind.i64 a0_3, Value.int IntKind.i64 a0_4, Value.int IntKind.i64 a0_5], Value.int IntKind.i64 1048576, Value.int IntKind.i64 (1048576 - ((n0 : Nat) : Int)), Value.int IntKind.i64 (1048576 - ((n0 : Nat) : Int)), Value.bool (decide (1048576 - ((n0 : Nat) : Int) < 0)), f 21, f 22, f 23, f 24, f 25, f 26, f 27, f 28, undef, undef, undef, undef, undef, undef, undef, undef, undef, undef, undef, undef, undef, undef, undef, undef, undef, undef, undef, undef, undef, undef, undef, undef, undef, undef, undef, undef, undef, undef, undef, undef, undef, undef, undef, undef, undef, undef, undef, undef, undef, undef, undef, undef, undef, undef, undef, undef, undef, undef, undef, undef, undef, undef, undef, undef, undef, undef, undef, undef, undef, undef, undef, undef, undef, undef, undef, undef, undef, undef, undef, undef, undef, undef, undef], []⟩ v1 → (JFEntera B_1 zs0 r0 r1 r2 r3 r4 r5 f0v A0 n0 c0 z0 a0_0 a0_1 a0_2 a0_3 a0_4 a0_5 a1_0 a1_1 b_p1 b_p0) j a' w') → K a' w') → wpOp _ _ _ i K ⟨#[Value.agg #[Value.slice A0 n0 c0, Value.int IntKind.i64 a0_0, Value.int IntKind.i64 a0_1, Value.int IntKind.i64 a0_2, Value.int IntKind.i64 a0_3, Value.int IntKind.i64 a0_4, Value.int IntKind.i64 a0_5], Value.agg #[Value.int IntKind.i64 a1_0, Value.int IntKind.i64 a1_1], Value.pointer (some { block := b_p0, off := 0 }), Value.pointer (some { block := b_p1, off := 0 }), Value.bool false, Value.int IntKind.i64 (1048576 - ((n0 : Nat) : Int)), f 6, f 7, undef, undef, undef, undef, undef, undef, undef, undef, Value.agg #[Value.slice A0 n0 c0, Value.int IntKind.i64 a0_0, Value.int IntKind.i64 a0_1, Value.int IntKind.i64 a0_2, Value.int IntKind.i64 a0_3, Value.int IntKind.i64 a0_4, Value.int IntKind.i64 a0_5], Value.int IntKind.i64 1048576, Value.int IntKind.i64 (1048576 - ((n0 : Nat) : Int)), Value.int IntKind.i64 (1048576 - ((n0 : Nat) : Int)), Value.bool (decide (1048576 - ((n0 : Nat) : Int) < 0)), f 21, f 22, f 23, f 24, f 25, f 26, f 27, f 28, undef, undef, undef, undef, undef, undef, undef, undef, undef, undef, undef, undef, undef, undef, undef, undef, undef, undef, undef, undef, undef, undef, undef, undef, undef, undef, undef, undef, undef, undef, undef, undef, undef, undef, undef, undef, undef, undef, undef, undef, undef, undef, undef, undef, undef, undef, undef, undef, undef, undef, undef, undef, undef, undef, undef, undef, undef, undef, undef, undef, undef, undef, undef, undef, undef, undef, undef, undef, undef, undef, undef, undef, undef, undef, undef], []⟩ v1 from H _ fun _ _ h => h
    intro K hK
    rcases (by omega : i = 0 ∨ i = 1 ∨ i = 2 ∨ i = 3 ∨ i = 4 ∨ i = 5 ∨ i = 6 ∨ i = 7 ∨ i = 8 ∨ i = 9 ∨ i = 10) with rfl | rfl | rfl | rfl | rfl | rfl | rfl | rfl | rfl | rfl | rfl
    · obtain rfl := Option.some.inj ho
      refine wpOp_plain rfl rfl ?_
      unfold Oper.wp
      go_simp
      exact hK _ _ ⟨⟨⟨updf f 22 (.agg #[.slice A0 n0 c0, .int .i64 a0_0, .int .i64 a0_1, .int .i64 a0_2, .int .i64 a0_3, .int .i64 a0_4, .int .i64 a0_5]), rfl⟩, hin⟩, rfl, fun j hj hw hu hf => by
          rcases j with _ | _ | _ | _ | _ | _ | _ | _ | _ | _ | _ | j
          · exact absurd rfl hj
          · exact hf
          · first | (have h9 : _ = _ := hf; exact h9) | rfl
          · first | (have h9 : _ = _ := hf; exact h9) | rfl
          · exact hf
          · exact hf
          · exact hf
          · first | (have h9 : _ = _ := hf; exact h9) | rfl
          · exact hf
          · exact hf
          · first | (have h9 : _ = _ := hf; exact h9) | rfl
          · exact trivial⟩
    · obtain rfl := Option.some.inj ho
      have f0 := haf { on := 0, ground := .data } (by simp) rfl rfl
      have f0 : _ = _ := Option.some.inj f0
      refine wpOp_plain rfl rfl ?_
      unfold Oper.wp
      go_simp
      refine (toBook_w A0 n0 c0 z0 a0_0 a0_1 a0_2 a0_3 a0_4 a0_5 _ (by first | omega | (unfold maxLen; omega)) (R0.out.in_ (i_1.trans hin))).mono ?_
      rintro _ v2 ⟨g0_2, rfl, ho0, hg0, hb2⟩
      exact hK _ _ ⟨⟨⟨updf f 23 (.agg #[.slice (some ⟨g0_2, 0, none⟩) n0 n0, .int .i64 a0_0, .int .i64 a0_1, .int .i64 a0_2, .int .i64 a0_3, .int .i64 a0_4, .int .i64 a0_5]), rfl⟩, hin.step hb2⟩, ⟨g0_2, _, rfl, Nat.le_trans (Nat.le_trans hBl_1 hin.size) hg0, ho0⟩, fun j hj hw hu hf => by
          rcases j with _ | _ | _ | _ | _ | _ | _ | _ | _ | _ | _ | j
          · first | (have h9 : _ = _ := hf; exact h9) | rfl
          · exact absurd rfl hj
          · first | (have h9 : _ = _ := hf; exact h9) | rfl
          · first | (have h9 : _ = _ := hf; exact h9) | rfl
          · exact absurd (hw.symm.trans (show waitsT _ 6 _ _ = true by kernel_rfl)) (by decide)
          · exact absurd (hw.symm.trans (show waitsT _ 6 _ _ = true by kernel_rfl)) (by decide)
          · exact absurd (hw.symm.trans (show waitsT _ 6 _ _ = true by kernel_rfl)) (by decide)
          · first | (have h9 : _ = _ := hf; exact h9) | rfl
          · first | (obtain ⟨gs, X0, X1, X2, X3, X4, X5, X6, h0, h1, h2⟩ := hf; exact ⟨gs, X0, X1, X2, X3, X4, X5, X6, h0, h1, h2.step hb2⟩)
          · exact absurd (hw.symm.trans (show waitsT _ 6 _ _ = true by kernel_rfl)) (by decide)
          · first | (have h9 : _ = _ := hf; exact h9) | rfl
          · exact trivial⟩
    · obtain rfl := Option.some.inj ho
      refine wpOp_plain rfl rfl ?_
      unfold Oper.wp
      go_simp
      exact hK _ _ ⟨⟨⟨updf f 24 (.agg #[.int .i64 a1_0, .int .i64 a1_1]), rfl⟩, hin⟩, rfl, fun j hj hw hu hf => by
          rcases j with _ | _ | _ | _ | _ | _ | _ | _ | _ | _ | _ | j
          · first | (have h9 : _ = _ := hf; exact h9) | rfl
          · exact hf
          · exact absurd rfl hj
          · first | (have h9 : _ = _ := hf; exact h9) | rfl
          · exact hf
          · exact hf
          · exact hf
          · first | (have h9 : _ = _ := hf; exact h9) | rfl
          · exact hf
          · exact hf
          · first | (have h9 : _ = _ := hf; exact h9) | rfl
          · exact trivial⟩
    · obtain rfl := Option.some.inj ho
      have f2 := haf { on := 2, ground := .data } (by simp) rfl rfl
      have f2 : _ = _ := Option.some.inj f2
      refine wpOp_plain rfl rfl ?_
      unfold Oper.wp
      go_simp
      refine (toEvent_c a1_0 a1_1 _).mono ?_
      rintro _ v2 ⟨rfl, hb2⟩
      exact hK _ _ ⟨⟨⟨updf f 25 (.agg #[.int .i64 a1_0, .int .i64 a1_1]), rfl⟩, hin.step hb2⟩, rfl, fun j hj hw hu hf => by
          rcases j with _ | _ | _ | _ | _ | _ | _ | _ | _ | _ | _ | j
          · first | (have h9 : _ = _ := hf; exact h9) | rfl
          · first | (obtain ⟨g0, c0, h0, b0, o0⟩ := hf; exact ⟨g0, c0, h0, b0, o0.step hb2⟩)
          · first | (have h9 : _ = _ := hf; exact h9) | rfl
          · exact absurd rfl hj
          · exact absurd (hw.symm.trans (show waitsT _ 6 _ _ = true by kernel_rfl)) (by decide)
          · exact absurd (hw.symm.trans (show waitsT _ 6 _ _ = true by kernel_rfl)) (by decide)
          · exact absurd (hw.symm.trans (show waitsT _ 6 _ _ = true by kernel_rfl)) (by decide)
          · first | (have h9 : _ = _ := hf; exact h9) | rfl
          · first | (obtain ⟨gs, X0, X1, X2, X3, X4, X5, X6, h0, h1, h2⟩ := hf; exact ⟨gs, X0, X1, X2, X3, X4, X5, X6, h0, h1, h2.step hb2⟩)
          · exact absurd (hw.symm.trans (show waitsT _ 6 _ _ = true by kernel_rfl)) (by decide)
          · first | (have h9 : _ = _ := hf; exact h9) | rfl
          · exact trivial⟩
    · obtain rfl := Option.some.inj ho
      obtain ⟨g0_1, c0_1, f1, hb10, ho10⟩ := haf { on := 1, ground := .data } (by simp) rfl rfl
      have f1 : _ = _ := Option.some.inj f1
      have f3 := haf { on := 3, ground := .data } (by simp) rfl rfl
      have f3 : _ = _ := Option.some.inj f3
      refine wpOp_plain rfl rfl ?_
      unfold Oper.wp
      go_simp
      refine (HsC.out g0_1 c0_1 _ (ho10.reads)).mono ?_
      rintro _ v2 ⟨g0_2, c0_2, rfl, ho0, hg0, hb2⟩
      exact hK _ _ ⟨⟨⟨updf f 26 (.tuple #[.agg #[.slice (some ⟨g0_2, 0, none⟩) zs0.length c0_2, .int .i64 r0, .int .i64 r1, .int .i64 r2, .int .i64 r3, .int .i64 r4, .int .i64 r5], .bool f0v]), rfl⟩, hin.step hb2⟩, ⟨g0_2, c0_2, rfl, Nat.le_trans (Nat.le_trans hBl_1 hin.size) hg0, ho0⟩, fun j hj hw hu hf => by
          rcases j with _ | _ | _ | _ | _ | _ | _ | _ | _ | _ | _ | j
          · first | (have h9 : _ = _ := hf; exact h9) | rfl
          · exact absurd (hu.symm.trans (show (_ || usesB _ _ _ _) = false by kernel_rfl)) (by decide)
          · first | (have h9 : _ = _ := hf; exact h9) | rfl
          · first | (have h9 : _ = _ := hf; exact h9) | rfl
          · exact absurd rfl hj
          · exact absurd (hw.symm.trans (show waitsT _ 6 _ _ = true by kernel_rfl)) (by decide)
          · exact absurd (hw.symm.trans (show waitsT _ 6 _ _ = true by kernel_rfl)) (by decide)
          · first | (have h9 : _ = _ := hf; exact h9) | rfl
          · first | (obtain ⟨gs, X0, X1, X2, X3, X4, X5, X6, h0, h1, h2⟩ := hf; exact ⟨gs, X0, X1, X2, X3, X4, X5, X6, h0, h1, h2.step hb2⟩)
          · exact absurd (hw.symm.trans (show waitsT _ 6 _ _ = true by kernel_rfl)) (by decide)
          · first | (have h9 : _ = _ := hf; exact h9) | rfl
          · exact trivial⟩
    · obtain rfl := Option.some.inj ho
      obtain ⟨g0_4, c0_4, f4, hb40, ho40⟩ := haf { on := 4, ground := .data } (by simp) rfl rfl
      have f4 : _ = _ := Option.some.inj f4
      refine wpOp_plain rfl rfl ?_
      unfold Oper.wp
      go_simp
      exact hK _ _ ⟨⟨⟨updf f 21 (.tuple #[.agg #[.slice (some ⟨g0_4, 0, none⟩) zs0.length c0_4, .int .i64 r0, .int .i64 r1, .int .i64 r2, .int .i64 r3, .int .i64 r4, .int .i64 r5], .bool f0v]), rfl⟩, hin⟩, ⟨g0_4, c0_4, rfl, hb40, ho40⟩, fun j hj hw hu hf => by
          rcases j with _ | _ | _ | _ | _ | _ | _ | _ | _ | _ | _ | j
          · first | (have h9 : _ = _ := hf; exact h9) | rfl
          · exact hf
          · first | (have h9 : _ = _ := hf; exact h9) | rfl
          · first | (have h9 : _ = _ := hf; exact h9) | rfl
          · exact hf
          · exact absurd rfl hj
          · exact hf
          · first | (have h9 : _ = _ := hf; exact h9) | rfl
          · exact hf
          · exact hf
          · first | (have h9 : _ = _ := hf; exact h9) | rfl
          · exact trivial⟩
    · obtain rfl := Option.some.inj ho
      obtain ⟨g0_5, c0_5, f5, hb50, ho50⟩ := haf { on := 5, ground := .data } (by simp) rfl rfl
      have f5 : _ = _ := Option.some.inj f5
      refine wpOp_plain rfl rfl ?_
      unfold Oper.wp
      go_simp
      exact hK _ _ ⟨⟨⟨updf f 27 (.agg #[.slice (some ⟨g0_5, 0, none⟩) zs0.length c0_5, .int .i64 r0, .int .i64 r1, .int .i64 r2, .int .i64 r3, .int .i64 r4, .int .i64 r5]), rfl⟩, hin⟩, ⟨g0_5, c0_5, rfl, hb50, ho50⟩, fun j hj hw hu hf => by
          rcases j with _ | _ | _ | _ | _ | _ | _ | _ | _ | _ | _ | j
          · first | (have h9 : _ = _ := hf; exact h9) | rfl
          · exact hf
          · first | (have h9 : _ = _ := hf; exact h9) | rfl
          · first | (have h9 : _ = _ := hf; exact h9) | rfl
          · exact hf
          · exact hf
          · exact absurd rfl hj
          · first | (have h9 : _ = _ := hf; exact h9) | rfl
          · exact hf
          · exact hf
          · first | (have h9 : _ = _ := hf; exact h9) | rfl
          · exact trivial⟩
    · obtain rfl := Option.some.inj ho
      obtain ⟨g0_5, c0_5, f5, hb50, ho50⟩ := haf { on := 5, ground := .data } (by simp) rfl rfl
      have f5 : _ = _ := Option.some.inj f5
      refine wpOp_plain rfl rfl ?_
      unfold Oper.wp
      go_simp
      exact hK _ _ ⟨⟨⟨updf f 28 (.bool f0v), rfl⟩, hin⟩, rfl, fun j hj hw hu hf => by
          rcases j with _ | _ | _ | _ | _ | _ | _ | _ | _ | _ | _ | j
          · first | (have h9 : _ = _ := hf; exact h9) | rfl
          · exact hf
          · first | (have h9 : _ = _ := hf; exact h9) | rfl
          · first | (have h9 : _ = _ := hf; exact h9) | rfl
          · exact hf
          · exact hf
          · exact hf
          · exact absurd rfl hj
          · exact hf
          · exact hf
          · first | (have h9 : _ = _ := hf; exact h9) | rfl
          · exact trivial⟩
    · obtain rfl := Option.some.inj ho
      refine wpOp_plain rfl rfl ?_
      unfold Oper.wp
      go_simp
      exact hK _ _ ⟨⟨⟨updf f 6 (.pointer (some ⟨v1.heap.size, 0, none⟩)), rfl⟩, hin.alloc _⟩, ⟨v1.heap.size, _, _, _, _, _, _, _, Nat.le_trans hBl_1 hin.size, rfl, Blk.new v1 _ _⟩, fun j hj hw hu hf => by
          rcases j with _ | _ | _ | _ | _ | _ | _ | _ | _ | _ | _ | j
          · first | (have h9 : _ = _ := hf; exact h9) | rfl
          · first | (obtain ⟨g0, c0, h0, b0, o0⟩ := hf; exact ⟨g0, c0, h0, b0, o0.step ((Below.refl _ v1).alloc (Nat.le_refl _) _)⟩)
          · first | (have h9 : _ = _ := hf; exact h9) | rfl
          · first | (have h9 : _ = _ := hf; exact h9) | rfl
          · first | (obtain ⟨g0, c0, h0, b0, o0⟩ := hf; exact ⟨g0, c0, h0, b0, o0.step ((Below.refl _ v1).alloc (Nat.le_refl _) _)⟩)
          · first | (obtain ⟨g0, c0, h0, b0, o0⟩ := hf; exact ⟨g0, c0, h0, b0, o0.step ((Below.refl _ v1).alloc (Nat.le_refl _) _)⟩)
          · first | (obtain ⟨g0, c0, h0, b0, o0⟩ := hf; exact ⟨g0, c0, h0, b0, o0.step ((Below.refl _ v1).alloc (Nat.le_refl _) _)⟩)
          · first | (have h9 : _ = _ := hf; exact h9) | rfl
          · exact absurd rfl hj
          · exact absurd (hw.symm.trans (show waitsT _ 6 _ _ = true by kernel_rfl)) (by decide)
          · first | (have h9 : _ = _ := hf; exact h9) | rfl
          · exact trivial⟩
    · obtain rfl := Option.some.inj ho
      obtain ⟨g0_6, c0_6, f6, hb60, ho60⟩ := haf { on := 6, ground := .data } (by simp) rfl rfl
      have f6 : _ = _ := Option.some.inj f6
      obtain ⟨gs, X0, X1, X2, X3, X4, X5, X6, hgB, hsl, hbk⟩ := haf { on := 8, ground := .data } (by simp) rfl rfl
      have hsl : _ = _ := Option.some.inj hsl
      have z0 := hbk.cell 0
      have y0 := hbk.frozen 0
      have z1 := hbk.cell 1
      have y1 := hbk.frozen 1
      have z2 := hbk.cell 2
      have y2 := hbk.frozen 2
      have z3 := hbk.cell 3
      have y3 := hbk.frozen 3
      have z4 := hbk.cell 4
      have y4 := hbk.frozen 4
      have z5 := hbk.cell 5
      have y5 := hbk.frozen 5
      have z6 := hbk.cell 6
      have y6 := hbk.frozen 6
      have hgw := Nat.le_trans hBg_1 hgB
      have hb2 : Below w_1.heap.size v1 (((((((v1.setCell ⟨gs, 0, none⟩ (.slice (some ⟨g0_6, 0, none⟩) zs0.length c0_6)).setCell ⟨gs, 1, none⟩ (.int .i64 r0)).setCell ⟨gs, 2, none⟩ (.int .i64 r1)).setCell ⟨gs, 3, none⟩ (.int .i64 r2)).setCell ⟨gs, 4, none⟩ (.int .i64 r3)).setCell ⟨gs, 5, none⟩ (.int .i64 r4)).setCell ⟨gs, 6, none⟩ (.int .i64 r5)) := ((((((((Below.refl _ _).setCell hgw _).setCell hgw _).setCell hgw _).setCell hgw _).setCell hgw _).setCell hgw _).setCell hgw _)
      have hgr : v1.grownBy (((((((v1.setCell ⟨gs, 0, none⟩ (.slice (some ⟨g0_6, 0, none⟩) zs0.length c0_6)).setCell ⟨gs, 1, none⟩ (.int .i64 r0)).setCell ⟨gs, 2, none⟩ (.int .i64 r1)).setCell ⟨gs, 3, none⟩ (.int .i64 r2)).setCell ⟨gs, 4, none⟩ (.int .i64 r3)).setCell ⟨gs, 5, none⟩ (.int .i64 r4)).setCell ⟨gs, 6, none⟩ (.int .i64 r5)) (some gs) := (only_setCell (only_setCell (only_setCell (only_setCell (only_setCell (only_setCell (only_setCell (only_refl _ _) (p := ⟨gs, 0, none⟩) (.inl rfl) _) (p := ⟨gs, 1, none⟩) (.inl rfl) _) (p := ⟨gs, 2, none⟩) (.inl rfl) _) (p := ⟨gs, 3, none⟩) (.inl rfl) _) (p := ⟨gs, 4, none⟩) (.inl rfl) _) (p := ⟨gs, 5, none⟩) (.inl rfl) _) (p := ⟨gs, 6, none⟩) (.inl rfl) _)
      have HBK : Blk (((((((v1.setCell ⟨gs, 0, none⟩ (.slice (some ⟨g0_6, 0, none⟩) zs0.length c0_6)).setCell ⟨gs, 1, none⟩ (.int .i64 r0)).setCell ⟨gs, 2, none⟩ (.int .i64 r1)).setCell ⟨gs, 3, none⟩ (.int .i64 r2)).setCell ⟨gs, 4, none⟩ (.int .i64 r3)).setCell ⟨gs, 5, none⟩ (.int .i64 r4)).setCell ⟨gs, 6, none⟩ (.int .i64 r5)) gs 51 #[.slice (some ⟨g0_6, 0, none⟩) zs0.length c0_6, .int .i64 r0, .int .i64 r1, .int .i64 r2, .int .i64 r3, .int .i64 r4, .int .i64 r5] := by
        have h := (((((((hbk.set_ 0 (.slice (some ⟨g0_6, 0, none⟩) zs0.length c0_6)).set_ 1 (.int .i64 r0)).set_ 2 (.int .i64 r1)).set_ 3 (.int .i64 r2)).set_ 4 (.int .i64 r3)).set_ 5 (.int .i64 r4)).set_ 6 (.int .i64 r5))
        simpa using h
      refine wpOp_plain rfl rfl ?_
      unfold Oper.wp
      go_simp
      exact hK _ _ ⟨⟨⟨f, rfl⟩, hin.wide hb2⟩, ⟨gs, g0_6, c0_6, hgB, congrArg some hsl, HBK, hb60, ho60.far hbk (by decide) hgr⟩, fun j hj hw hu hf => by
          rcases j with _ | _ | _ | _ | _ | _ | _ | _ | _ | _ | _ | j
          · first | (have h9 : _ = _ := hf; exact h9) | rfl
          · exact absurd (hu.symm.trans (show (_ || usesB _ _ _ _) = false by kernel_rfl)) (by decide)
          · first | (have h9 : _ = _ := hf; exact h9) | rfl
          · first | (have h9 : _ = _ := hf; exact h9) | rfl
          · exact absurd (hu.symm.trans (show (_ || usesB _ _ _ _) = false by kernel_rfl)) (by decide)
          · first | (obtain ⟨g0, c0, h0, b0, o0⟩ := hf; exact ⟨g0, c0, h0, b0, o0.far hbk (by decide) hgr⟩)
          · exact absurd (hu.symm.trans (show (_ || usesB _ _ _ _) = false by kernel_rfl)) (by decide)
          · first | (have h9 : _ = _ := hf; exact h9) | rfl
          · exact absurd (hu.symm.trans (show (_ || usesB _ _ _ _) = false by kernel_rfl)) (by decide)
          · exact absurd rfl hj
          · first | (have h9 : _ = _ := hf; exact h9) | rfl
          · exact trivial⟩
    · obtain rfl := Option.some.inj ho
      have f7 := haf { on := 7, ground := .data } (by simp) rfl rfl
      have f7 : _ = _ := Option.some.inj f7
      refine wpOp_plain rfl rfl ?_
      unfold Oper.wp
      go_simp
      exact hK _ _ ⟨⟨⟨updf f 7 (.bool f0v), rfl⟩, hin⟩, rfl, fun j hj hw hu hf => by
          rcases j with _ | _ | _ | _ | _ | _ | _ | _ | _ | _ | _ | j
          · first | (have h9 : _ = _ := hf; exact h9) | rfl
          · exact hf
          · first | (have h9 : _ = _ := hf; exact h9) | rfl
          · first | (have h9 : _ = _ := hf; exact h9) | rfl
          · exact hf
          · exact hf
          · exact hf
          · first | (have h9 : _ = _ := hf; exact h9) | rfl
          · exact hf
          · exact hf
          · exact absurd rfl hj
          · exact trivial⟩
  intro a w_2 hI hF
  obtain ⟨⟨ha, rfl⟩, hn_2⟩ := hI
  have hb_2 := hn_2.below
  obtain ⟨gs_2, g0_2, c0_2, hgs_2, hs_2, kk_2, hg0_2, ho0_2⟩ := hF 9 (by decide) (by decide)
  have hs_2 : ha 6 = _ := Option.some.inj hs_2
  have he_2_7 : ha 7 = _ := Option.some.inj (hF 10 (by decide) (by decide))
  clear hF
  rw [hs_2, he_2_7]
  clear hs_2 he_2_7
  have hgg0_2 := Nat.le_trans hBg_1 hg0_2
  clear hg0_2
  have o_2_X1 : OCEvent w_2 g0_2 zs0.length c0_2 zs0 := ho0_2
  clear ho0_2 hgg0_2
  have kb_2 : Blk w_2 (gs_2) 51 #[.slice (some ⟨g0_2, 0, none⟩) zs0.length c0_2, .int .i64 r0, .int .i64 r1, .int .i64 r2, .int .i64 r3, .int .i64 r4, .int .i64 r5] := kk_2
  clear kk_2
  have i_2 : In w.heap.size w w_2 := In.step (by (repeat (first | exact In.refl _ | assumption | apply In.alloc | apply In.drewN | apply In.drew | (refine In.step ?_ (by assumption))))) hb_2
  have k_2_p0 : Blk w_2 (b_p0) 45 #[.slice A0 n0 c0, .int .i64 a0_0, .int .i64 a0_1, .int .i64 a0_2, .int .i64 a0_3, .int .i64 a0_4, .int .i64 a0_5] := Blk.step (by (with_reducible (repeat (first | assumption | exact Blk.new' (by simp) | apply Blk.drewN | apply Blk.drew | apply Blk.alloc | (refine Blk.far ?_ (by (try simp) <;> omega) _))))) hb_2
  have c_2_p0_0 : w_2.cell? ⟨b_p0, 0, none⟩ = some (.slice A0 n0 c0) := k_2_p0.cell 0
  have c_2_p0_1 : w_2.cell? ⟨b_p0, 1, none⟩ = some (.int .i64 a0_0) := k_2_p0.cell 1
  have c_2_p0_2 : w_2.cell? ⟨b_p0, 2, none⟩ = some (.int .i64 a0_1) := k_2_p0.cell 2
  have c_2_p0_3 : w_2.cell? ⟨b_p0, 3, none⟩ = some (.int .i64 a0_2) := k_2_p0.cell 3
  have c_2_p0_4 : w_2.cell? ⟨b_p0, 4, none⟩ = some (.int .i64 a0_3) := k_2_p0.cell 4
  have c_2_p0_5 : w_2.cell? ⟨b_p0, 5, none⟩ = some (.int .i64 a0_4) := k_2_p0.cell 5
  have c_2_p0_6 : w_2.cell? ⟨b_p0, 6, none⟩ = some (.int .i64 a0_5) := k_2_p0.cell 6
  have l_2_p0 := k_2_p0.lt
  have k_2_p1 : Blk w_2 (b_p1) 57 #[.int .i64 a1_0, .int .i64 a1_1] := Blk.step (by (with_reducible (repeat (first | assumption | exact Blk.new' (by simp) | apply Blk.drewN | apply Blk.drew | apply Blk.alloc | (refine Blk.far ?_ (by (try simp) <;> omega) _))))) hb_2
  have c_2_p1_0 : w_2.cell? ⟨b_p1, 0, none⟩ = some (.int .i64 a1_0) := k_2_p1.cell 0
  have c_2_p1_1 : w_2.cell? ⟨b_p1, 1, none⟩ = some (.int .i64 a1_1) := k_2_p1.cell 1
  have l_2_p1 := k_2_p1.lt
  clear i_1 k_1_p0 c_1_p0_0 c_1_p0_1 c_1_p0_2 c_1_p0_3 c_1_p0_4 c_1_p0_5 c_1_p0_6 l_1_p0 k_1_p1 c_1_p1_0 c_1_p1_1 l_1_p1 hb_1
  have k_2_l1 : Blk w_2 (gs_2) 51 #[.slice (some ⟨g0_2, 0, none⟩) zs0.length c0_2, .int .i64 r0, .int .i64 r1, .int .i64 r2, .int .i64 r3, .int .i64 r4, .int .i64 r5] := kb_2
  have c_2_l1_0 : w_2.cell? ⟨gs_2, 0, none⟩ = some (.slice (some ⟨g0_2, 0, none⟩) zs0.length c0_2) := k_2_l1.cell 0
  have c_2_l1_1 : w_2.cell? ⟨gs_2, 1, none⟩ = some (.int .i64 r0) := k_2_l1.cell 1
  have c_2_l1_2 : w_2.cell? ⟨gs_2, 2, none⟩ = some (.int .i64 r1) := k_2_l1.cell 2
  have c_2_l1_3 : w_2.cell? ⟨gs_2, 3, none⟩ = some (.int .i64 r2) := k_2_l1.cell 3
  have c_2_l1_4 : w_2.cell? ⟨gs_2, 4, none⟩ = some (.int .i64 r3) := k_2_l1.cell 4
  have c_2_l1_5 : w_2.cell? ⟨gs_2, 5, none⟩ = some (.int .i64 r4) := k_2_l1.cell 5
  have c_2_l1_6 : w_2.cell? ⟨gs_2, 6, none⟩ = some (.int .i64 r5) := k_2_l1.cell 6
  have l_2_l1 := k_2_l1.lt
  clear kb_2 hn_2 hgs_2
  clear hBl_1 hBg_1
  have HW0 := Lib.hid (OCEvent.reads o_2_X1)
  clear o_2_X1
  have IC := Lib.hid i_2
  have j_2 : In w_2.heap.size w_2 w_2 := In.refl _
  go_wp2_with fail
  refine (toBook_w A0 n0 c0 z0 a0_0 a0_1 a0_2 a0_3 a0_4 a0_5 _ (by first | omega | (unfold maxLen; omega)) (R0.out.in_ (IC.out.trans (by (repeat (first | exact In.refl _ | assumption | apply In.alloc | apply In.drewN | apply In.drew | (refine In.step ?_ (by assumption)))))))).mono ?_
  rintro _ w_3 ⟨g0_3, rfl, ho0_3, hg0_3, hb_3⟩
  have GX_X2 : Hid (w_2.heap.size ≤ g0_3) := Lib.hid (by have h1 := hg0_3; (try simp at h1); have h2 := In.size j_2; omega)
  have o_3_X2 : OCEvent w_3 g0_3 n0 n0 z0 := ho0_3
  clear ho0_3 hg0_3
  have j_3 : In w_2.heap.size w_2 w_3 := In.step (by (repeat (first | exact In.refl _ | assumption | apply In.alloc | apply In.drewN | apply In.drew | (refine In.step ?_ (by assumption))))) hb_3
  have k_3_p0 : Blk w_3 (b_p0) 45 #[.slice A0 n0 c0, .int .i64 a0_0, .int .i64 a0_1, .int .i64 a0_2, .int .i64 a0_3, .int .i64 a0_4, .int .i64 a0_5] := Blk.step (by (with_reducible (repeat (first | assumption | exact Blk.new' (by simp) | apply Blk.drewN | apply Blk.drew | apply Blk.alloc | (refine Blk.far ?_ (by (try simp) <;> omega) _))))) hb_3
  have c_3_p0_0 : w_3.cell? ⟨b_p0, 0, none⟩ = some (.slice A0 n0 c0) := k_3_p0.cell 0
  have c_3_p0_1 : w_3.cell? ⟨b_p0, 1, none⟩ = some (.int .i64 a0_0) := k_3_p0.cell 1
  have c_3_p0_2 : w_3.cell? ⟨b_p0, 2, none⟩ = some (.int .i64 a0_1) := k_3_p0.cell 2
  have c_3_p0_3 : w_3.cell? ⟨b_p0, 3, none⟩ = some (.int .i64 a0_2) := k_3_p0.cell 3
  have c_3_p0_4 : w_3.cell? ⟨b_p0, 4, none⟩ = some (.int .i64 a0_3) := k_3_p0.cell 4
  have c_3_p0_5 : w_3.cell? ⟨b_p0, 5, none⟩ = some (.int .i64 a0_4) := k_3_p0.cell 5
  have c_3_p0_6 : w_3.cell? ⟨b_p0, 6, none⟩ = some (.int .i64 a0_5) := k_3_p0.cell 6
  have l_3_p0 := k_3_p0.lt
  have k_3_p1 : Blk w_3 (b_p1) 57 #[.int .i64 a1_0, .int .i64 a1_1] := Blk.step (by (with_reducible (repeat (first | assumption | exact Blk.new' (by simp) | apply Blk.drewN | apply Blk.drew | apply Blk.alloc | (refine Blk.far ?_ (by (try simp) <;> omega) _))))) hb_3
  have c_3_p1_0 : w_3.cell? ⟨b_p1, 0, none⟩ = some (.int .i64 a1_0) := k_3_p1.cell 0
  have c_3_p1_1 : w_3.cell? ⟨b_p1, 1, none⟩ = some (.int .i64 a1_1) := k_3_p1.cell 1
  have l_3_p1 := k_3_p1.lt
  have k_3_l1 : Blk w_3 (gs_2) 51 #[.slice (some ⟨g0_2, 0, none⟩) zs0.length c0_2, .int .i64 r0, .int .i64 r1, .int .i64 r2, .int .i64 r3, .int .i64 r4, .int .i64 r5] := Blk.step (by (with_reducible (repeat (first | assumption | exact Blk.new' (by simp) | apply Blk.drewN | apply Blk.drew | apply Blk.alloc | (refine Blk.far ?_ (by (try simp) <;> omega) _))))) hb_3
  have c_3_l1_0 : w_3.cell? ⟨gs_2, 0, none⟩ = some (.slice (some ⟨g0_2, 0, none⟩) zs0.length c0_2) := k_3_l1.cell 0
  have c_3_l1_1 : w_3.cell? ⟨gs_2, 1, none⟩ = some (.int .i64 r0) := k_3_l1.cell 1
  have c_3_l1_2 : w_3.cell? ⟨gs_2, 2, none⟩ = some (.int .i64 r1) := k_3_l1.cell 2
  have c_3_l1_3 : w_3.cell? ⟨gs_2, 3, none⟩ = some (.int .i64 r2) := k_3_l1.cell 3
  have c_3_l1_4 : w_3.cell? ⟨gs_2, 4, none⟩ = some (.int .i64 r3) := k_3_l1.cell 4
  have c_3_l1_5 : w_3.cell? ⟨gs_2, 5, none⟩ = some (.int .i64 r4) := k_3_l1.cell 5
  have c_3_l1_6 : w_3.cell? ⟨gs_2, 6, none⟩ = some (.int .i64 r5) := k_3_l1.cell 6
  have l_3_l1 := k_3_l1.lt
  clear i_2 k_2_p0 c_2_p0_0 c_2_p0_1 c_2_p0_2 c_2_p0_3 c_2_p0_4 c_2_p0_5 c_2_p0_6 l_2_p0 k_2_p1 c_2_p1_0 c_2_p1_1 l_2_p1 hb_2 k_2_l1 c_2_l1_0 c_2_l1_1 c_2_l1_2 c_2_l1_3 c_2_l1_4 c_2_l1_5 c_2_l1_6 l_2_l1 j_2
  go_wp2_with fail
  obtain ⟨b_l2, hbx_l2⟩ : ∃ b, b = w_3.heap.size := ⟨_, rfl⟩
  rw [← hbx_l2]
  have hb_4 : Below w_3.heap.size w_3 (w_3.alloc (.cells #[.slice (some ⟨g0_3, 0, none⟩) n0 n0, .int .i64 a0_0, .int .i64 a0_1, .int .i64 a0_2, .int .i64 a0_3, .int .i64 a0_4, .int .i64 a0_5] 51)) := (Below.refl _ _).alloc (Nat.le_refl _) _
  have kk_4 : Blk (w_3.alloc (.cells #[.slice (some ⟨g0_3, 0, none⟩) n0 n0, .int .i64 a0_0, .int .i64 a0_1, .int .i64 a0_2, .int .i64 a0_3, .int .i64 a0_4, .int .i64 a0_5] 51)) b_l2 51 #[.slice (some ⟨g0_3, 0, none⟩) n0 n0, .int .i64 a0_0, .int .i64 a0_1, .int .i64 a0_2, .int .i64 a0_3, .int .i64 a0_4, .int .i64 a0_5] := Blk.new' hbx_l2
  clear hbx_l2
  generalize (w_3.alloc (.cells #[.slice (some ⟨g0_3, 0, none⟩) n0 n0, .int .i64 a0_0, .int .i64 a0_1, .int .i64 a0_2, .int .i64 a0_3, .int .i64 a0_4, .int .i64 a0_5] 51)) = w_4 at *
  have j_4 : In w_2.heap.size w_2 w_4 := In.step (by (repeat (first | exact In.refl _ | assumption | apply In.alloc | apply In.drewN | apply In.drew | (refine In.step ?_ (by assumption))))) hb_4
  have k_4_p0 : Blk w_4 (b_p0) 45 #[.slice A0 n0 c0, .int .i64 a0_0, .int .i64 a0_1, .int .i64 a0_2, .int .i64 a0_3, .int .i64 a0_4, .int .i64 a0_5] := Blk.step (by (with_reducible (repeat (first | assumption | exact Blk.new' (by simp) | apply Blk.drewN | apply Blk.drew | apply Blk.alloc | (refine Blk.far ?_ (by (try simp) <;> omega) _))))) hb_4
  have c_4_p0_0 : w_4.cell? ⟨b_p0, 0, none⟩ = some (.slice A0 n0 c0) := k_4_p0.cell 0
  have c_4_p0_1 : w_4.cell? ⟨b_p0, 1, none⟩ = some (.int .i64 a0_0) := k_4_p0.cell 1
  have c_4_p0_2 : w_4.cell? ⟨b_p0, 2, none⟩ = some (.int .i64 a0_1) := k_4_p0.cell 2
  have c_4_p0_3 : w_4.cell? ⟨b_p0, 3, none⟩ = some (.int .i64 a0_2) := k_4_p0.cell 3
  have c_4_p0_4 : w_4.cell? ⟨b_p0, 4, none⟩ = some (.int .i64 a0_3) := k_4_p0.cell 4
  have c_4_p0_5 : w_4.cell? ⟨b_p0, 5, none⟩ = some (.int .i64 a0_4) := k_4_p0.cell 5
  have c_4_p0_6 : w_4.cell? ⟨b_p0, 6, none⟩ = some (.int .i64 a0_5) := k_4_p0.cell 6
  have l_4_p0 := k_4_p0.lt
  have k_4_p1 : Blk w_4 (b_p1) 57 #[.int .i64 a1_0, .int .i64 a1_1] := Blk.step (by (with_reducible (repeat (first | assumption | exact Blk.new' (by simp) | apply Blk.drewN | apply Blk.drew | apply Blk.alloc | (refine Blk.far ?_ (by (try simp) <;> omega) _))))) hb_4
  have c_4_p1_0 : w_4.cell? ⟨b_p1, 0, none⟩ = some (.int .i64 a1_0) := k_4_p1.cell 0
  have c_4_p1_1 : w_4.cell? ⟨b_p1, 1, none⟩ = some (.int .i64 a1_1) := k_4_p1.cell 1
  have l_4_p1 := k_4_p1.lt
  have k_4_l1 : Blk w_4 (gs_2) 51 #[.slice (some ⟨g0_2, 0, none⟩) zs0.length c0_2, .int .i64 r0, .int .i64 r1, .int .i64 r2, .int .i64 r3, .int .i64 r4, .int .i64 r5] := Blk.step (by (with_reducible (repeat (first | assumption | exact Blk.new' (by simp) | apply Blk.drewN | apply Blk.drew | apply Blk.alloc | (refine Blk.far ?_ (by (try simp) <;> omega) _))))) hb_4
  have c_4_l1_0 : w_4.cell? ⟨gs_2, 0, none⟩ = some (.slice (some ⟨g0_2, 0, none⟩) zs0.length c0_2) := k_4_l1.cell 0
  have c_4_l1_1 : w_4.cell? ⟨gs_2, 1, none⟩ = some (.int .i64 r0) := k_4_l1.cell 1
  have c_4_l1_2 : w_4.cell? ⟨gs_2, 2, none⟩ = some (.int .i64 r1) := k_4_l1.cell 2
  have c_4_l1_3 : w_4.cell? ⟨gs_2, 3, none⟩ = some (.int .i64 r2) := k_4_l1.cell 3
  have c_4_l1_4 : w_4.cell? ⟨gs_2, 4, none⟩ = some (.int .i64 r3) := k_4_l1.cell 4
  have c_4_l1_5 : w_4.cell? ⟨gs_2, 5, none⟩ = some (.int .i64 r4) := k_4_l1.cell 5
  have c_4_l1_6 : w_4.cell? ⟨gs_2, 6, none⟩ = some (.int .i64 r5) := k_4_l1.cell 6
  have l_4_l1 := k_4_l1.lt
  have k_4_l2 : Blk w_4 (b_l2) 51 #[.slice (some ⟨g0_3, 0, none⟩) n0 n0, .int .i64 a0_0, .int .i64 a0_1, .int .i64 a0_2, .int .i64 a0_3, .int .i64 a0_4, .int .i64 a0_5] := kk_4
  have c_4_l2_0 : w_4.cell? ⟨b_l2, 0, none⟩ = some (.slice (some ⟨g0_3, 0, none⟩) n0 n0) := k_4_l2.cell 0
  have c_4_l2_1 : w_4.cell? ⟨b_l2, 1, none⟩ = some (.int .i64 a0_0) := k_4_l2.cell 1
  have c_4_l2_2 : w_4.cell? ⟨b_l2, 2, none⟩ = some (.int .i64 a0_1) := k_4_l2.cell 2
  have c_4_l2_3 : w_4.cell? ⟨b_l2, 3, none⟩ = some (.int .i64 a0_2) := k_4_l2.cell 3
  have c_4_l2_4 : w_4.cell? ⟨b_l2, 4, none⟩ = some (.int .i64 a0_3) := k_4_l2.cell 4
  have c_4_l2_5 : w_4.cell? ⟨b_l2, 5, none⟩ = some (.int .i64 a0_4) := k_4_l2.cell 5
  have c_4_l2_6 : w_4.cell? ⟨b_l2, 6, none⟩ = some (.int .i64 a0_5) := k_4_l2.cell 6
  have l_4_l2 := k_4_l2.lt
  have o_4_X2 : OCEvent w_4 g0_3 n0 n0 z0 := OCEvent.step (by with_reducible (repeat (first | assumption | apply OCEvent.drewN | apply OCEvent.drew | apply OCEvent.alloc))) hb_4
  clear j_3 k_3_p0 c_3_p0_0 c_3_p0_1 c_3_p0_2 c_3_p0_3 c_3_p0_4 c_3_p0_5 c_3_p0_6 l_3_p0 k_3_p1 c_3_p1_0 c_3_p1_1 l_3_p1 k_3_l1 c_3_l1_0 c_3_l1_1 c_3_l1_2 c_3_l1_3 c_3_l1_4 c_3_l1_5 c_3_l1_6 l_3_l1 o_3_X2 hb_3
  clear kk_4
  go_wp2_with fail
  have hBw_4 : w_4.heap.size ≤ w_4.heap.size := Nat.le_refl _
  obtain ⟨B_4, hB_4⟩ : ∃ B, B = w_4.heap.size := ⟨_, rfl⟩
  have hBl_4 : B_4 ≤ w_4.heap.size := by omega
  have hBg_4 : w_4.heap.size ≤ B_4 := by omega
  clear hBw_4 hB_4
  refine wp_region_facts2 (JIEnterb w_4 zs0 r0 r1 r2 r3 r4 r5 f0v A0 n0 c0 a0_0 a0_1 a0_2 a0_3 a0_4 a0_5 a1_0 a1_1 b_p1 b_p0 ha gs_2 g0_3 b_l2) (JFEnterb B_4 zs0 r0 r1 r2 r3 r4 r5 f0v A0 n0 c0 a0_0 a0_1 a0_2 a0_3 a0_4 a0_5 a1_0 a1_1 b_p1 b_p0 ha gs_2 g0_3 b_l2) (fun j => j == 8 || j == 9) (fun k j => (k == 2 && (j == 1)) || (k == 3 && (j == 0 || j == 2)) || (k == 4 && (j == 3)) || (k == 5 && (j == 4)) || (k == 6 && (j == 4)) || (k == 8 && (j == 5 || j == 7)) || (k == 9 && (j == 6))) (by kernel_rfl) (by kernel_rfl) ⟨⟨fun _ => undef, rfl⟩, (In.refl _).drew⟩ ?_ ?_
  · intro a v1 i o ho hI haf
    obtain ⟨⟨f, rfl⟩, hin⟩ := hI
    have kv_p1 : Blk v1 (b_p1) 57 #[.int .i64 a1_0, .int .i64 a1_1] := Blk.step k_4_p1 hin.below
    have cv_p1_0 := kv_p1.cell 0
    have cv_p1_1 := kv_p1.cell 1
    have kv_l2 : Blk v1 (b_l2) 51 #[.slice (some ⟨g0_3, 0, none⟩) n0 n0, .int .i64 a0_0, .int .i64 a0_1, .int .i64 a0_2, .int .i64 a0_3, .int .i64 a0_4, .int .i64 a0_5] := Blk.step k_4_l2 hin.below
    have cv_l2_0 := kv_l2.cell 0
    have cv_l2_1 := kv_l2.cell 1
    have cv_l2_2 := kv_l2.cell 2
    have cv_l2_3 := kv_l2.cell 3
    have cv_l2_4 := kv_l2.cell 4
    have cv_l2_5 := kv_l2.cell 5
    have cv_l2_6 := kv_l2.cell 6
    have ov_X2 : OCEvent v1 g0_3 n0 n0 z0 := OCEvent.step o_4_X2 hin.below
    have hi : i < 10 := by
      rcases Nat.lt_or_ge i 10 with h | h
      · exact h
      · simp [h] at ho
    suffices H : ∀ K : Act → World → Prop, (∀ a' w', ((JIEnterb w_4 zs0 r0 r1 r2 r3 r4 r5 f0v A0 n0 c0 a0_0 a0_1 a0_2 a0_3 a0_4 a0_5 a1_0 a1_1 b_p1 b_p0 ha gs_2 g0_3 b_l2) a' w' ∧ (JFEnterb B_4 zs0 r0 r1 r2 r3 r4 r5 f0v A0 n0 c0 a0_0 a0_1 a0_2 a0_3 a0_4 a0_5 a1_0 a1_1 b_p1 b_p0 ha gs_2 g0_3 b_l2) i a' w' ∧ ∀ j, j ≠ i → waitsT _ 6 j i = false → ((fun j => j == 8 || j == 9) j || usesB _ (fun k j => (k == 2 && (j == 1)) || (k == 3 && (j == 0 || j == 2)) || (k == 4 && (j == 3)) || (k == 5 && (j == 4)) || (k == 6 && (j == 4)) || (k == 8 && (j == 5 || j == 7)) || (k == 9 && (j == 6))) i j) = true → (JFEnterb B_4 zs0 r0 r1 r2 r3 r4 r5 f0v A0 n0 c0 a0_0 a0_1 a0_2 a0_3 a0_4 a0_5 a1_0 a1_1 b_p1 b_p0 ha gs_2 g0_3 b_l2) j ⟨#[Value.agg #[Value.slice A0 n0 c0, Value.int IntKind.i64 a0_0, Value.int IntKind.i64 a0_1, Value.int IntKind.i64 a0_2, Value.int IntKind.i64 a0_3, Value.int IntKind.i64 a0_4, Value.int IntKind.i64 a0_5], Value.agg #[Value.int IntKind.i64 a1_0, Value.int IntKind.i64 a1_1], Value.pointer (some { block := b_p0, off := 0 }), Value.pointer (some { block := b_p1, off := 0 }), Value.bool false, Value.int IntKind.i64 (1048576 - ((n0 : Nat) : Int)), Value.pointer (some { block := gs_2, off := 0 }), Value.bool f0v, Value.pointer (some { block := b_l2, off := 0 }), f 9, f 10, undef, undef, undef, undef, undef, Value.agg #[Value.slice A0 n0 c0, Value.int IntKind.i64 a0_0, Value.int IntKind.i64 a0_1, Value.int IntKind.i64 a0_2, Value.int IntKind.i64 a0_3, Value.int IntKind.i64 a0_4, Value.int IntKind.i64 a0_5], Value.int IntKind.i64 1048576, Value.int IntKind.i64 (1048576 - ((n0 : Nat) : Int)), Value.int IntKind.i64 (1048576 - ((n0 : Nat) : Int)), Value.bool (decide (1048576 - ((n0 : Nat) : Int) < 0)), ha 21, ha 22, ha 23, ha 24, ha 25, ha 26, ha 27, ha 28, Value.agg #[Value.slice A0 n0 c0, Value.int IntKind.i64 a0_0, Value.int IntKind.i64 a0_1, Value.int IntKind.i64 a0_2, Value.int IntKind.i64 a0_3, Value.int IntKind.i64 a0_4, Value.int IntKind.i64 a0_5], Value.agg #[Value.slice (some { block := g0_3, off := 0 }) n0 n0, Value.int IntKind.i64 a0_0, Value.int IntKind.i64 a0_1, Value.int IntKind.i64 a0_2, Value.int IntKind.i64 a0_3, Value.int IntKind.i64 a0_4, Value.int IntKind.i64 a0_5], f 31, f 32, f 33, f 34, f 35, f 36, f 37, undef, undef, undef, undef, undef, undef, undef, undef, undef, undef, undef, undef, undef, undef, undef, undef, undef, undef, undef, undef, undef, undef, undef, undef, undef, undef, undef, undef, undef, undef, undef, undef, undef, undef, undef, undef, undef, undef, undef, undef, undef, undef, undef, undef, undef, undef, undef, undef, undef, undef, undef, undef, undef, undef, undef, undef, undef, undef, undef, undef, undef, undef, undef, undef, undef, undef], []⟩ v1 → (JFEnterb B_4 zs0 r0 r1 r2 r3 r4 r5 f0v A0 n0 c0 a0_0 a0_1 a0_2 a0_3 a0_4 a0_5 a1_0 a1_1 b_p1 b_p0 ha gs_2 g0_3 b_l2) j a' w') → K a' w') → wpOp _ _ _ i K ⟨#[Value.agg #[Value.slice A0 n0 c0, Value.int IntKind.i64 a0_0, Value.int IntKind.i64 a0_1, Value.int IntKind.i64 a0_2, Value.int IntKind.i64 a0_3, Value.int IntKind.i64 a0_4, Value.int IntKind.i64 a0_5], Value.agg #[Value.int IntKind.i64 a1_0, Value.int IntKind.i64 a1_1], Value.pointer (some { block := b_p0, off := 0 }), Value.pointer (some { block := b_p1, off := 0 }), Value.bool false, Value.int IntKind.i64 (1048576 - ((n0 : Nat) : Int)), Value.pointer (some { block := gs_2, off := 0 }), Value.bool f0v, Value.pointer (some { block := b_l2, off := 0 }), f 9, f 10, undef, undef, undef, undef, undef, Value.agg #[Value.slice A0 n0 c0, Value.int IntKind.i64 a0_0, Value.int IntKind.i64 a0_1, Value.int IntKind.i64 a0_2, Value.int IntKind.i64 a0_3, Value.int IntKind.i64 a0_4, Value.int IntKind.i64 a0_5], Value.int IntKind.i64 1048576, Value.int IntKind.i64 (1048576 - ((n0 : Nat) : Int)), Value.int IntKind.i64 (1048576 - ((n0 : Nat) : Int)), Value.bool (decide (1048576 - ((n0 : Nat) : Int) < 0)), ha 21, ha 22, ha 23, ha 24, ha 25, ha 26, ha 27, ha 28, Value.agg #[Value.slice A0 n0 c0, Value.int IntKind.i64 a0_0, Value.int IntKind.i64 a0_1, Value.int IntKind.i64 a0_2, Value.int IntKind.i64 a0_3, Value.int IntKind.i64 a0_4, Value.int IntKind.i64 a0_5], Value.agg #[Value.slice (some { block := g0_3, off := 0 }) n0 n0, Value.int IntKind.i64 a0_0, Value.int IntKind.i64 a0_1, Value.int IntKind.i64 a0_2, Value.int IntKind.i64 a0_3, Value.int IntKind.i64 a0_4, Value.int IntKind.i64 a0_5], f 31, f 32, f 33, f 34, f 35, f 36, f 37, undef, undef, undef, undef, undef, undef, undef, undef, undef, undef, undef, undef, undef, undef, undef, undef, undef, undef, undef, undef, undef, undef, undef, undef, undef, undef, undef, undef, undef, undef, undef, undef, undef, undef, undef, undef, undef, undef, undef, undef, undef, undef, undef, undef, undef, undef, undef, undef, undef, undef, undef, undef, undef, undef, undef, undef, undef, undef, undef, undef, undef, undef, undef, undef, undef, undef], []⟩ v1 from H _ fun _ _ h => h
    intro K hK
    rcases (by omega : i = 0 ∨ i = 1 ∨ i = 2 ∨ i = 3 ∨ i = 4 ∨ i = 5 ∨ i = 6 ∨ i = 7 ∨ i = 8 ∨ i = 9) with rfl | rfl | rfl | rfl | rfl | rfl | rfl | rfl | rfl | rfl
    · obtain rfl := Option.some.inj ho
      refine wpOp_plain rfl rfl ?_
      unfold Oper.wp
      go_simp
      exact hK _ _ ⟨⟨⟨updf f 32 (.agg #[.slice (some ⟨g0_3, 0, none⟩) n0 n0, .int .i64 a0_0, .int .i64 a0_1, .int .i64 a0_2, .int .i64 a0_3, .int .i64 a0_4, .int .i64 a0_5]), rfl⟩, hin⟩, rfl, fun j hj hw hu hf => by
          rcases j with _ | _ | _ | _ | _ | _ | _ | _ | _ | _ | j
          · exact absurd rfl hj
          · first | (have h9 : _ = _ := hf; exact h9) | rfl
          · first | (have h9 : _ = _ := hf; exact h9) | rfl
          · exact hf
          · exact hf
          · exact hf
          · first | (have h9 : _ = _ := hf; exact h9) | rfl
          · exact hf
          · exact hf
          · first | (have h9 : _ = _ := hf; exact h9) | rfl
          · exact trivial⟩
    · obtain rfl := Option.some.inj ho
      refine wpOp_plain rfl rfl ?_
      unfold Oper.wp
      go_simp
      exact hK _ _ ⟨⟨⟨updf f 33 (.agg #[.int .i64 a1_0, .int .i64 a1_1]), rfl⟩, hin⟩, rfl, fun j hj hw hu hf => by
          rcases j with _ | _ | _ | _ | _ | _ | _ | _ | _ | _ | j
          · first | (have h9 : _ = _ := hf; exact h9) | rfl
          · exact absurd rfl hj
          · first | (have h9 : _ = _ := hf; exact h9) | rfl
          · exact hf
          · exact hf
          · exact hf
          · first | (have h9 : _ = _ := hf; exact h9) | rfl
          · exact hf
          · exact hf
          · first | (have h9 : _ = _ := hf; exact h9) | rfl
          · exact trivial⟩
    · obtain rfl := Option.some.inj ho
      have f1 := haf { on := 1, ground := .data } (by simp) rfl rfl
      have f1 : _ = _ := Option.some.inj f1
      refine wpOp_plain rfl rfl ?_
      unfold Oper.wp
      go_simp
      refine (toEvent_c a1_0 a1_1 _).mono ?_
      rintro _ v2 ⟨rfl, hb2⟩
      exact hK _ _ ⟨⟨⟨updf f 34 (.agg #[.int .i64 a1_0, .int .i64 a1_1]), rfl⟩, hin.step hb2⟩, rfl, fun j hj hw hu hf => by
          rcases j with _ | _ | _ | _ | _ | _ | _ | _ | _ | _ | j
          · first | (have h9 : _ = _ := hf; exact h9) | rfl
          · first | (have h9 : _ = _ := hf; exact h9) | rfl
          · exact absurd rfl hj
          · exact absurd (hw.symm.trans (show waitsT _ 6 _ _ = true by kernel_rfl)) (by decide)
          · exact absurd (hw.symm.trans (show waitsT _ 6 _ _ = true by kernel_rfl)) (by decide)
          · exact absurd (hw.symm.trans (show waitsT _ 6 _ _ = true by kernel_rfl)) (by decide)
          · first | (have h9 : _ = _ := hf; exact h9) | rfl
          · first | (obtain ⟨gs, X0, X1, X2, X3, X4, X5, X6, h0, h1, h2⟩ := hf; exact ⟨gs, X0, X1, X2, X3, X4, X5, X6, h0, h1, h2.step hb2⟩)
          · exact absurd (hw.symm.trans (show waitsT _ 6 _ _ = true by kernel_rfl)) (by decide)
          · first | (have h9 : _ = _ := hf; exact h9) | rfl
          · exact trivial⟩
    · obtain rfl := Option.some.inj ho
      have f0 := haf { on := 0, ground := .data } (by simp) rfl rfl
      have f0 : _ = _ := Option.some.inj f0
      have f2 := haf { on := 2, ground := .data } (by simp) rfl rfl
      have f2 : _ = _ := Option.some.inj f2
      refine wpOp_plain rfl rfl ?_
      unfold Oper.wp
      go_simp
      refine (HiC.out g0_3 n0 _ (ov_X2.reads)).mono ?_
      rintro _ v2 ⟨g0_2, c0_2, rfl, ho0, hg0, hb2⟩
      exact hK _ _ ⟨⟨⟨updf f 35 (.tuple #[.agg #[.slice (some ⟨g0_2, 0, none⟩) zs0.length c0_2, .int .i64 r0, .int .i64 r1, .int .i64 r2, .int .i64 r3, .int .i64 r4, .int .i64 r5], .bool f0v]), rfl⟩, hin.step hb2⟩, ⟨g0_2, c0_2, rfl, Nat.le_trans (Nat.le_trans hBl_4 hin.size) hg0, ho0⟩, fun j hj hw hu hf => by
          rcases j with _ | _ | _ | _ | _ | _ | _ | _ | _ | _ | j
          · first | (have h9 : _ = _ := hf; exact h9) | rfl
          · first | (have h9 : _ = _ := hf; exact h9) | rfl
          · first | (have h9 : _ = _ := hf; exact h9) | rfl
          · exact absurd rfl hj
          · exact absurd (hw.symm.trans (show waitsT _ 6 _ _ = true by kernel_rfl)) (by decide)
          · exact absurd (hw.symm.trans (show waitsT _ 6 _ _ = true by kernel_rfl)) (by decide)
          · first | (have h9 : _ = _ := hf; exact h9) | rfl
          · first | (obtain ⟨gs, X0, X1, X2, X3, X4, X5, X6, h0, h1, h2⟩ := hf; exact ⟨gs, X0, X1, X2, X3, X4, X5, X6, h0, h1, h2.step hb2⟩)
          · exact absurd (hw.symm.trans (show waitsT _ 6 _ _ = true by kernel_rfl)) (by decide)
          · first | (have h9 : _ = _ := hf; exact h9) | rfl
          · exact trivial⟩
    · obtain rfl := Option.some.inj ho
      obtain ⟨g0_3, c0_3, f3, hb30, ho30⟩ := haf { on := 3, ground := .data } (by simp) rfl rfl
      have f3 : _ = _ := Option.some.inj f3
      refine wpOp_plain rfl rfl ?_
      unfold Oper.wp
      go_simp
      exact hK _ _ ⟨⟨⟨updf f 31 (.tuple #[.agg #[.slice (some ⟨g0_3, 0, none⟩) zs0.length c0_3, .int .i64 r0, .int .i64 r1, .int .i64 r2, .int .i64 r3, .int .i64 r4, .int .i64 r5], .bool f0v]), rfl⟩, hin⟩, ⟨g0_3, c0_3, rfl, hb30, ho30⟩, fun j hj hw hu hf => by
          rcases j with _ | _ | _ | _ | _ | _ | _ | _ | _ | _ | j
          · first | (have h9 : _ = _ := hf; exact h9) | rfl
          · first | (have h9 : _ = _ := hf; exact h9) | rfl
          · first | (have h9 : _ = _ := hf; exact h9) | rfl
          · exact hf
          · exact absurd rfl hj
          · exact hf
          · first | (have h9 : _ = _ := hf; exact h9) | rfl
          · exact hf
          · exact hf
          · first | (have h9 : _ = _ := hf; exact h9) | rfl
          · exact trivial⟩
    · obtain rfl := Option.some.inj ho
      obtain ⟨g0_4, c0_4, f4, hb40, ho40⟩ := haf { on := 4, ground := .data } (by simp) rfl rfl
      have f4 : _ = _ := Option.some.inj f4
      refine wpOp_plain rfl rfl ?_
      unfold Oper.wp
      go_simp
      exact hK _ _ ⟨⟨⟨updf f 36 (.agg #[.slice (some ⟨g0_4, 0, none⟩) zs0.length c0_4, .int .i64 r0, .int .i64 r1, .int .i64 r2, .int .i64 r3, .int .i64 r4, .int .i64 r5]), rfl⟩, hin⟩, ⟨g0_4, c0_4, rfl, hb40, ho40⟩, fun j hj hw hu hf => by
          rcases j with _ | _ | _ | _ | _ | _ | _ | _ | _ | _ | j
          · first | (have h9 : _ = _ := hf; exact h9) | rfl
          · first | (have h9 : _ = _ := hf; exact h9) | rfl
          · first | (have h9 : _ = _ := hf; exact h9) | rfl
          · exact hf
          · exact hf
          · exact absurd rfl hj
          · first | (have h9 : _ = _ := hf; exact h9) | rfl
          · exact hf
          · exact hf
          · first | (have h9 : _ = _ := hf; exact h9) | rfl
          · exact trivial⟩
    · obtain rfl := Option.some.inj ho
      obtain ⟨g0_4, c0_4, f4, hb40, ho40⟩ := haf { on := 4, ground := .data } (by simp) rfl rfl
      have f4 : _ = _ := Option.some.inj f4
      refine wpOp_plain rfl rfl ?_
      unfold Oper.wp
      go_simp
      exact hK _ _ ⟨⟨⟨updf f 37 (.bool f0v), rfl⟩, hin⟩, rfl, fun j hj hw hu hf => by
          rcases j with _ | _ | _ | _ | _ | _ | _ | _ | _ | _ | j
          · first | (have h9 : _ = _ := hf; exact h9) | rfl
          · first | (have h9 : _ = _ := hf; exact h9) | rfl
          · first | (have h9 : _ = _ := hf; exact h9) | rfl
          · exact hf
          · exact hf
          · exact hf
          · exact absurd rfl hj
          · exact hf
          · exact hf
          · first | (have h9 : _ = _ := hf; exact h9) | rfl
          · exact trivial⟩
    · obtain rfl := Option.some.inj ho
      refine wpOp_plain rfl rfl ?_
      unfold Oper.wp
      go_simp
      exact hK _ _ ⟨⟨⟨updf f 9 (.pointer (some ⟨v1.heap.size, 0, none⟩)), rfl⟩, hin.alloc _⟩, ⟨v1.heap.size, _, _, _, _, _, _, _, Nat.le_trans hBl_4 hin.size, rfl, Blk.new v1 _ _⟩, fun j hj hw hu hf => by
          rcases j with _ | _ | _ | _ | _ | _ | _ | _ | _ | _ | j
          · first | (have h9 : _ = _ := hf; exact h9) | rfl
          · first | (have h9 : _ = _ := hf; exact h9) | rfl
          · first | (have h9 : _ = _ := hf; exact h9) | rfl
          · first | (obtain ⟨g0, c0, h0, b0, o0⟩ := hf; exact ⟨g0, c0, h0, b0, o0.step ((Below.refl _ v1).alloc (Nat.le_refl _) _)⟩)
          · first | (obtain ⟨g0, c0, h0, b0, o0⟩ := hf; exact ⟨g0, c0, h0, b0, o0.step ((Below.refl _ v1).alloc (Nat.le_refl _) _)⟩)
          · first | (obtain ⟨g0, c0, h0, b0, o0⟩ := hf; exact ⟨g0, c0, h0, b0, o0.step ((Below.refl _ v1).alloc (Nat.le_refl _) _)⟩)
          · first | (have h9 : _ = _ := hf; exact h9) | rfl
          · exact absurd rfl hj
          · exact absurd (hw.symm.trans (show waitsT _ 6 _ _ = true by kernel_rfl)) (by decide)
          · first | (have h9 : _ = _ := hf; exact h9) | rfl
          · exact trivial⟩
    · obtain rfl := Option.some.inj ho
      obtain ⟨g0_5, c0_5, f5, hb50, ho50⟩ := haf { on := 5, ground := .data } (by simp) rfl rfl
      have f5 : _ = _ := Option.some.inj f5
      obtain ⟨gs, X0, X1, X2, X3, X4, X5, X6, hgB, hsl, hbk⟩ := haf { on := 7, ground := .data } (by simp) rfl rfl
      have hsl : _ = _ := Option.some.inj hsl
      have z0 := hbk.cell 0
      have y0 := hbk.frozen 0
      have z1 := hbk.cell 1
      have y1 := hbk.frozen 1
      have z2 := hbk.cell 2
      have y2 := hbk.frozen 2
      have z3 := hbk.cell 3
      have y3 := hbk.frozen 3
      have z4 := hbk.cell 4
      have y4 := hbk.frozen 4
      have z5 := hbk.cell 5
      have y5 := hbk.frozen 5
      have z6 := hbk.cell 6
      have y6 := hbk.frozen 6
      have hgw := Nat.le_trans hBg_4 hgB
      have hb2 : Below w_4.heap.size v1 (((((((v1.setCell ⟨gs, 0, none⟩ (.slice (some ⟨g0_5, 0, none⟩) zs0.length c0_5)).setCell ⟨gs, 1, none⟩ (.int .i64 r0)).setCell ⟨gs, 2, none⟩ (.int .i64 r1)).setCell ⟨gs, 3, none⟩ (.int .i64 r2)).setCell ⟨gs, 4, none⟩ (.int .i64 r3)).setCell ⟨gs, 5, none⟩ (.int .i64 r4)).setCell ⟨gs, 6, none⟩ (.int .i64 r5)) := ((((((((Below.refl _ _).setCell hgw _).setCell hgw _).setCell hgw _).setCell hgw _).setCell hgw _).setCell hgw _).setCell hgw _)
      have hgr : v1.grownBy (((((((v1.setCell ⟨gs, 0, none⟩ (.slice (some ⟨g0_5, 0, none⟩) zs0.length c0_5)).setCell ⟨gs, 1, none⟩ (.int .i64 r0)).setCell ⟨gs, 2, none⟩ (.int .i64 r1)).setCell ⟨gs, 3, none⟩ (.int .i64 r2)).setCell ⟨gs, 4, none⟩ (.int .i64 r3)).setCell ⟨gs, 5, none⟩ (.int .i64 r4)).setCell ⟨gs, 6, none⟩ (.int .i64 r5)) (some gs) := (only_setCell (only_setCell (only_setCell (only_setCell (only_setCell (only_setCell (only_setCell (only_refl _ _) (p := ⟨gs, 0, none⟩) (.inl rfl) _) (p := ⟨gs, 1, none⟩) (.inl rfl) _) (p := ⟨gs, 2, none⟩) (.inl rfl) _) (p := ⟨gs, 3, none⟩) (.inl rfl) _) (p := ⟨gs, 4, none⟩) (.inl rfl) _) (p := ⟨gs, 5, none⟩) (.inl rfl) _) (p := ⟨gs, 6, none⟩) (.inl rfl) _)
      have HBK : Blk (((((((v1.setCell ⟨gs, 0, none⟩ (.slice (some ⟨g0_5, 0, none⟩) zs0.length c0_5)).setCell ⟨gs, 1, none⟩ (.int .i64 r0)).setCell ⟨gs, 2, none⟩ (.int .i64 r1)).setCell ⟨gs, 3, none⟩ (.int .i64 r2)).setCell ⟨gs, 4, none⟩ (.int .i64 r3)).setCell ⟨gs, 5, none⟩ (.int .i64 r4)).setCell ⟨gs, 6, none⟩ (.int .i64 r5)) gs 51 #[.slice (some ⟨g0_5, 0, none⟩) zs0.length c0_5, .int .i64 r0, .int .i64 r1, .int .i64 r2, .int .i64 r3, .int .i64 r4, .int .i64 r5] := by
        have h := (((((((hbk.set_ 0 (.slice (some ⟨g0_5, 0, none⟩) zs0.length c0_5)).set_ 1 (.int .i64 r0)).set_ 2 (.int .i64 r1)).set_ 3 (.int .i64 r2)).set_ 4 (.int .i64 r3)).set_ 5 (.int .i64 r4)).set_ 6 (.int .i64 r5))
        simpa using h
      refine wpOp_plain rfl rfl ?_
      unfold Oper.wp
      go_simp
      exact hK _ _ ⟨⟨⟨f, rfl⟩, hin.wide hb2⟩, ⟨gs, g0_5, c0_5, hgB, congrArg some hsl, HBK, hb50, ho50.far hbk (by decide) hgr⟩, fun j hj hw hu hf => by
          rcases j with _ | _ | _ | _ | _ | _ | _ | _ | _ | _ | j
          · first | (have h9 : _ = _ := hf; exact h9) | rfl
          · first | (have h9 : _ = _ := hf; exact h9) | rfl
          · first | (have h9 : _ = _ := hf; exact h9) | rfl
          · exact absurd (hu.symm.trans (show (_ || usesB _ _ _ _) = false by kernel_rfl)) (by decide)
          · first | (obtain ⟨g0, c0, h0, b0, o0⟩ := hf; exact ⟨g0, c0, h0, b0, o0.far hbk (by decide) hgr⟩)
          · exact absurd (hu.symm.trans (show (_ || usesB _ _ _ _) = false by kernel_rfl)) (by decide)
          · first | (have h9 : _ = _ := hf; exact h9) | rfl
          · exact absurd (hu.symm.trans (show (_ || usesB _ _ _ _) = false by kernel_rfl)) (by decide)
          · exact absurd rfl hj
          · first | (have h9 : _ = _ := hf; exact h9) | rfl
          · exact trivial⟩
    · obtain rfl := Option.some.inj ho
      have f6 := haf { on := 6, ground := .data } (by simp) rfl rfl
      have f6 : _ = _ := Option.some.inj f6
      refine wpOp_plain rfl rfl ?_
      unfold Oper.wp
      go_simp
      exact hK _ _ ⟨⟨⟨updf f 10 (.bool f0v), rfl⟩, hin⟩, rfl, fun j hj hw hu hf => by
          rcases j with _ | _ | _ | _ | _ | _ | _ | _ | _ | _ | j
          · first | (have h9 : _ = _ := hf; exact h9) | rfl
          · first | (have h9 : _ = _ := hf; exact h9) | rfl
          · first | (have h9 : _ = _ := hf; exact h9) | rfl
          · exact hf
          · exact hf
          · exact hf
          · first | (have h9 : _ = _ := hf; exact h9) | rfl
          · exact hf
          · exact hf
          · exact absurd rfl hj
          · exact trivial⟩
  intro a w_5 hI hF
  obtain ⟨⟨hb, rfl⟩, hn_5⟩ := hI
  have hb_5 := hn_5.below
  obtain ⟨gs_5, g0_5, c0_5, hgs_5, hs_5, kk_5, hg0_5, ho0_5⟩ := hF 8 (by decide) (by decide)
  have hs_5 : hb 9 = _ := Option.some.inj hs_5
  have he_5_10 : hb 10 = _ := Option.some.inj (hF 9 (by decide) (by decide))
  clear hF
  rw [hs_5, he_5_10]
  clear hs_5 he_5_10
  have hgg0_5 := Nat.le_trans hBg_4 hg0_5
  clear hg0_5
  have NE_X2_X3 : Hid (g0_3 ≠ g0_5) := Lib.hid (by have h1 := hgg0_5; (try simp at h1); have h2 := OCEvent.lt o_4_X2; omega)
  have GX_X3 : Hid (w_2.heap.size ≤ g0_5) := Lib.hid (by have h1 := hgg0_5; (try simp at h1); have h2 := In.size j_4; omega)
  have o_5_X3 : OCEvent w_5 g0_5 zs0.length c0_5 zs0 := ho0_5
  clear ho0_5 hgg0_5
  have kb_5 : Blk w_5 (gs_5) 51 #[.slice (some ⟨g0_5, 0, none⟩) zs0.length c0_5, .int .i64 r0, .int .i64 r1, .int .i64 r2, .int .i64 r3, .int .i64 r4, .int .i64 r5] := kk_5
  clear kk_5
  have j_5 : In w_2.heap.size w_2 w_5 := In.step (by (repeat (first | exact In.refl _ | assumption | apply In.alloc | apply In.drewN | apply In.drew | (refine In.step ?_ (by assumption))))) hb_5
  have k_5_p0 : Blk w_5 (b_p0) 45 #[.slice A0 n0 c0, .int .i64 a0_0, .int .i64 a0_1, .int .i64 a0_2, .int .i64 a0_3, .int .i64 a0_4, .int .i64 a0_5] := Blk.step (by (with_reducible (repeat (first | assumption | exact Blk.new' (by simp) | apply Blk.drewN | apply Blk.drew | apply Blk.alloc | (refine Blk.far ?_ (by (try simp) <;> omega) _))))) hb_5
  have c_5_p0_0 : w_5.cell? ⟨b_p0, 0, none⟩ = some (.slice A0 n0 c0) := k_5_p0.cell 0
  have c_5_p0_1 : w_5.cell? ⟨b_p0, 1, none⟩ = some (.int .i64 a0_0) := k_5_p0.cell 1
  have c_5_p0_2 : w_5.cell? ⟨b_p0, 2, none⟩ = some (.int .i64 a0_1) := k_5_p0.cell 2
  have c_5_p0_3 : w_5.cell? ⟨b_p0, 3, none⟩ = some (.int .i64 a0_2) := k_5_p0.cell 3
  have c_5_p0_4 : w_5.cell? ⟨b_p0, 4, none⟩ = some (.int .i64 a0_3) := k_5_p0.cell 4
  have c_5_p0_5 : w_5.cell? ⟨b_p0, 5, none⟩ = some (.int .i64 a0_4) := k_5_p0.cell 5
  have c_5_p0_6 : w_5.cell? ⟨b_p0, 6, none⟩ = some (.int .i64 a0_5) := k_5_p0.cell 6
  have l_5_p0 := k_5_p0.lt
  have k_5_p1 : Blk w_5 (b_p1) 57 #[.int .i64 a1_0, .int .i64 a1_1] := Blk.step (by (with_reducible (repeat (first | assumption | exact Blk.new' (by simp) | apply Blk.drewN | apply Blk.drew | apply Blk.alloc | (refine Blk.far ?_ (by (try simp) <;> omega) _))))) hb_5
  have c_5_p1_0 : w_5.cell? ⟨b_p1, 0, none⟩ = some (.int .i64 a1_0) := k_5_p1.cell 0
  have c_5_p1_1 : w_5.cell? ⟨b_p1, 1, none⟩ = some (.int .i64 a1_1) := k_5_p1.cell 1
  have l_5_p1 := k_5_p1.lt
  have k_5_l1 : Blk w_5 (gs_2) 51 #[.slice (some ⟨g0_2, 0, none⟩) zs0.length c0_2, .int .i64 r0, .int .i64 r1, .int .i64 r2, .int .i64 r3, .int .i64 r4, .int .i64 r5] := Blk.step (by (with_reducible (repeat (first | assumption | exact Blk.new' (by simp) | apply Blk.drewN | apply Blk.drew | apply Blk.alloc | (refine Blk.far ?_ (by (try simp) <;> omega) _))))) hb_5
  have c_5_l1_0 : w_5.cell? ⟨gs_2, 0, none⟩ = some (.slice (some ⟨g0_2, 0, none⟩) zs0.length c0_2) := k_5_l1.cell 0
  have c_5_l1_1 : w_5.cell? ⟨gs_2, 1, none⟩ = some (.int .i64 r0) := k_5_l1.cell 1
  have c_5_l1_2 : w_5.cell? ⟨gs_2, 2, none⟩ = some (.int .i64 r1) := k_5_l1.cell 2
  have c_5_l1_3 : w_5.cell? ⟨gs_2, 3, none⟩ = some (.int .i64 r2) := k_5_l1.cell 3
  have c_5_l1_4 : w_5.cell? ⟨gs_2, 4, none⟩ = some (.int .i64 r3) := k_5_l1.cell 4
  have c_5_l1_5 : w_5.cell? ⟨gs_2, 5, none⟩ = some (.int .i64 r4) := k_5_l1.cell 5
  have c_5_l1_6 : w_5.cell? ⟨gs_2, 6, none⟩ = some (.int .i64 r5) := k_5_l1.cell 6
  have l_5_l1 := k_5_l1.lt
  have k_5_l2 : Blk w_5 (b_l2) 51 #[.slice (some ⟨g0_3, 0, none⟩) n0 n0, .int .i64 a0_0, .int .i64 a0_1, .int .i64 a0_2, .int .i64 a0_3, .int .i64 a0_4, .int .i64 a0_5] := Blk.step (by (with_reducible (repeat (first | assumption | exact Blk.new' (by simp) | apply Blk.drewN | apply Blk.drew | apply Blk.alloc | (refine Blk.far ?_ (by (try simp) <;> omega) _))))) hb_5
  have c_5_l2_0 : w_5.cell? ⟨b_l2, 0, none⟩ = some (.slice (some ⟨g0_3, 0, none⟩) n0 n0) := k_5_l2.cell 0
  have c_5_l2_1 : w_5.cell? ⟨b_l2, 1, none⟩ = some (.int .i64 a0_0) := k_5_l2.cell 1
  have c_5_l2_2 : w_5.cell? ⟨b_l2, 2, none⟩ = some (.int .i64 a0_1) := k_5_l2.cell 2
  have c_5_l2_3 : w_5.cell? ⟨b_l2, 3, none⟩ = some (.int .i64 a0_2) := k_5_l2.cell 3
  have c_5_l2_4 : w_5.cell? ⟨b_l2, 4, none⟩ = some (.int .i64 a0_3) := k_5_l2.cell 4
  have c_5_l2_5 : w_5.cell? ⟨b_l2, 5, none⟩ = some (.int .i64 a0_4) := k_5_l2.cell 5
  have c_5_l2_6 : w_5.cell? ⟨b_l2, 6, none⟩ = some (.int .i64 a0_5) := k_5_l2.cell 6
  have l_5_l2 := k_5_l2.lt
  have o_5_X2 : OCEvent w_5 g0_3 n0 n0 z0 := OCEvent.step (by with_reducible (repeat (first | assumption | apply OCEvent.drewN | apply OCEvent.drew | apply OCEvent.alloc))) hb_5
  clear j_4 k_4_p0 c_4_p0_0 c_4_p0_1 c_4_p0_2 c_4_p0_3 c_4_p0_4 c_4_p0_5 c_4_p0_6 l_4_p0 k_4_p1 c_4_p1_0 c_4_p1_1 l_4_p1 k_4_l1 c_4_l1_0 c_4_l1_1 c_4_l1_2 c_4_l1_3 c_4_l1_4 c_4_l1_5 c_4_l1_6 l_4_l1 k_4_l2 c_4_l2_0 c_4_l2_1 c_4_l2_2 c_4_l2_3 c_4_l2_4 c_4_l2_5 c_4_l2_6 l_4_l2 o_4_X2 hb_4
  have k_5_l3 : Blk w_5 (gs_5) 51 #[.slice (some ⟨g0_5, 0, none⟩) zs0.length c0_5, .int .i64 r0, .int .i64 r1, .int .i64 r2, .int .i64 r3, .int .i64 r4, .int .i64 r5] := kb_5
  have c_5_l3_0 : w_5.cell? ⟨gs_5, 0, none⟩ = some (.slice (some ⟨g0_5, 0, none⟩) zs0.length c0_5) := k_5_l3.cell 0
  have c_5_l3_1 : w_5.cell? ⟨gs_5, 1, none⟩ = some (.int .i64 r0) := k_5_l3.cell 1
  have c_5_l3_2 : w_5.cell? ⟨gs_5, 2, none⟩ = some (.int .i64 r1) := k_5_l3.cell 2
  have c_5_l3_3 : w_5.cell? ⟨gs_5, 3, none⟩ = some (.int .i64 r2) := k_5_l3.cell 3
  have c_5_l3_4 : w_5.cell? ⟨gs_5, 4, none⟩ = some (.int .i64 r3) := k_5_l3.cell 4
  have c_5_l3_5 : w_5.cell? ⟨gs_5, 5, none⟩ = some (.int .i64 r4) := k_5_l3.cell 5
  have c_5_l3_6 : w_5.cell? ⟨gs_5, 6, none⟩ = some (.int .i64 r5) := k_5_l3.cell 6
  have l_5_l3 := k_5_l3.lt
  clear kb_5 hn_5 hgs_5
  clear hBl_4 hBg_4
  go_wp2_with fail
  refine (eqBook_w (some ⟨g0_5, 0, none⟩) (some ⟨g0_2, 0, none⟩) zs0.length c0_5 c0_2 zs0 r0 r1 r2 r3 r4 r5 _ (by first | omega | (unfold maxLen; omega)) (OCEvent.reads (by with_reducible (repeat (first | assumption | apply OCEvent.drewN | apply OCEvent.drew | apply OCEvent.alloc)))) (HW0.out.in_ (by (repeat (first | exact In.refl _ | assumption | apply In.alloc | apply In.drewN | apply In.drew | (refine In.step ?_ (by assumption))))))).mono ?_
  rintro _ w_6 ⟨rfl, hb_6⟩
  have j_6 : In w_2.heap.size w_2 w_6 := In.step (by (repeat (first | exact In.refl _ | assumption | apply In.alloc | apply In.drewN | apply In.drew | (refine In.step ?_ (by assumption))))) hb_6
  have k_6_p0 : Blk w_6 (b_p0) 45 #[.slice A0 n0 c0, .int .i64 a0_0, .int .i64 a0_1, .int .i64 a0_2, .int .i64 a0_3, .int .i64 a0_4, .int .i64 a0_5] := Blk.step (by (with_reducible (repeat (first | assumption | exact Blk.new' (by simp) | apply Blk.drewN | apply Blk.drew | apply Blk.alloc | (refine Blk.far ?_ (by (try simp) <;> omega) _))))) hb_6
  have c_6_p0_0 : w_6.cell? ⟨b_p0, 0, none⟩ = some (.slice A0 n0 c0) := k_6_p0.cell 0
  have c_6_p0_1 : w_6.cell? ⟨b_p0, 1, none⟩ = some (.int .i64 a0_0) := k_6_p0.cell 1
  have c_6_p0_2 : w_6.cell? ⟨b_p0, 2, none⟩ = some (.int .i64 a0_1) := k_6_p0.cell 2
  have c_6_p0_3 : w_6.cell? ⟨b_p0, 3, none⟩ = some (.int .i64 a0_2) := k_6_p0.cell 3
  have c_6_p0_4 : w_6.cell? ⟨b_p0, 4, none⟩ = some (.int .i64 a0_3) := k_6_p0.cell 4
  have c_6_p0_5 : w_6.cell? ⟨b_p0, 5, none⟩ = some (.int .i64 a0_4) := k_6_p0.cell 5
  have c_6_p0_6 : w_6.cell? ⟨b_p0, 6, none⟩ = some (.int .i64 a0_5) := k_6_p0.cell 6
  have l_6_p0 := k_6_p0.lt
  have k_6_p1 : Blk w_6 (b_p1) 57 #[.int .i64 a1_0, .int .i64 a1_1] := Blk.step (by (with_reducible (repeat (first | assumption | exact Blk.new' (by simp) | apply Blk.drewN | apply Blk.drew | apply Blk.alloc | (refine Blk.far ?_ (by (try simp) <;> omega) _))))) hb_6
  have c_6_p1_0 : w_6.cell? ⟨b_p1, 0, none⟩ = some (.int .i64 a1_0) := k_6_p1.cell 0
  have c_6_p1_1 : w_6.cell? ⟨b_p1, 1, none⟩ = some (.int .i64 a1_1) := k_6_p1.cell 1
  have l_6_p1 := k_6_p1.lt
  have k_6_l1 : Blk w_6 (gs_2) 51 #[.slice (some ⟨g0_2, 0, none⟩) zs0.length c0_2, .int .i64 r0, .int .i64 r1, .int .i64 r2, .int .i64 r3, .int .i64 r4, .int .i64 r5] := Blk.step (by (with_reducible (repeat (first | assumption | exact Blk.new' (by simp) | apply Blk.drewN | apply Blk.drew | apply Blk.alloc | (refine Blk.far ?_ (by (try simp) <;> omega) _))))) hb_6
  have c_6_l1_0 : w_6.cell? ⟨gs_2, 0, none⟩ = some (.slice (some ⟨g0_2, 0, none⟩) zs0.length c0_2) := k_6_l1.cell 0
  have c_6_l1_1 : w_6.cell? ⟨gs_2, 1, none⟩ = some (.int .i64 r0) := k_6_l1.cell 1
  have c_6_l1_2 : w_6.cell? ⟨gs_2, 2, none⟩ = some (.int .i64 r1) := k_6_l1.cell 2
  have c_6_l1_3 : w_6.cell? ⟨gs_2, 3, none⟩ = some (.int .i64 r2) := k_6_l1.cell 3
  have c_6_l1_4 : w_6.cell? ⟨gs_2, 4, none⟩ = some (.int .i64 r3) := k_6_l1.cell 4
  have c_6_l1_5 : w_6.cell? ⟨gs_2, 5, none⟩ = some (.int .i64 r4) := k_6_l1.cell 5
  have c_6_l1_6 : w_6.cell? ⟨gs_2, 6, none⟩ = some (.int .i64 r5) := k_6_l1.cell 6
  have l_6_l1 := k_6_l1.lt
  have k_6_l2 : Blk w_6 (b_l2) 51 #[.slice (some ⟨g0_3, 0, none⟩) n0 n0, .int .i64 a0_0, .int .i64 a0_1, .int .i64 a0_2, .int .i64 a0_3, .int .i64 a0_4, .int .i64 a0_5] := Blk.step (by (with_reducible (repeat (first | assumption | exact Blk.new' (by simp) | apply Blk.drewN | apply Blk.drew | apply Blk.alloc | (refine Blk.far ?_ (by (try simp) <;> omega) _))))) hb_6
  have c_6_l2_0 : w_6.cell? ⟨b_l2, 0, none⟩ = some (.slice (some ⟨g0_3, 0, none⟩) n0 n0) := k_6_l2.cell 0
  have c_6_l2_1 : w_6.cell? ⟨b_l2, 1, none⟩ = some (.int .i64 a0_0) := k_6_l2.cell 1
  have c_6_l2_2 : w_6.cell? ⟨b_l2, 2, none⟩ = some (.int .i64 a0_1) := k_6_l2.cell 2
  have c_6_l2_3 : w_6.cell? ⟨b_l2, 3, none⟩ = some (.int .i64 a0_2) := k_6_l2.cell 3
  have c_6_l2_4 : w_6.cell? ⟨b_l2, 4, none⟩ = some (.int .i64 a0_3) := k_6_l2.cell 4
  have c_6_l2_5 : w_6.cell? ⟨b_l2, 5, none⟩ = some (.int .i64 a0_4) := k_6_l2.cell 5
  have c_6_l2_6 : w_6.cell? ⟨b_l2, 6, none⟩ = some (.int .i64 a0_5) := k_6_l2.cell 6
  have l_6_l2 := k_6_l2.lt
  have k_6_l3 : Blk w_6 (gs_5) 51 #[.slice (some ⟨g0_5, 0, none⟩) zs0.length c0_5, .int .i64 r0, .int .i64 r1, .int .i64 r2, .int .i64 r3, .int .i64 r4, .int .i64 r5] := Blk.step (by (with_reducible (repeat (first | assumption | exact Blk.new' (by simp) | apply Blk.drewN | apply Blk.drew | apply Blk.alloc | (refine Blk.far ?_ (by (try simp) <;> omega) _))))) hb_6
  have c_6_l3_0 : w_6.cell? ⟨gs_5, 0, none⟩ = some (.slice (some ⟨g0_5, 0, none⟩) zs0.length c0_5) := k_6_l3.cell 0
  have c_6_l3_1 : w_6.cell? ⟨gs_5, 1, none⟩ = some (.int .i64 r0) := k_6_l3.cell 1
  have c_6_l3_2 : w_6.cell? ⟨gs_5, 2, none⟩ = some (.int .i64 r1) := k_6_l3.cell 2
  have c_6_l3_3 : w_6.cell? ⟨gs_5, 3, none⟩ = some (.int .i64 r2) := k_6_l3.cell 3
  have c_6_l3_4 : w_6.cell? ⟨gs_5, 4, none⟩ = some (.int .i64 r3) := k_6_l3.cell 4
  have c_6_l3_5 : w_6.cell? ⟨gs_5, 5, none⟩ = some (.int .i64 r4) := k_6_l3.cell 5
  have c_6_l3_6 : w_6.cell? ⟨gs_5, 6, none⟩ = some (.int .i64 r5) := k_6_l3.cell 6
  have l_6_l3 := k_6_l3.lt
  have o_6_X2 : OCEvent w_6 g0_3 n0 n0 z0 := OCEvent.step (by with_reducible (repeat (first | assumption | apply OCEvent.drewN | apply OCEvent.drew | apply OCEvent.alloc))) hb_6
  have o_6_X3 : OCEvent w_6 g0_5 zs0.length c0_5 zs0 := OCEvent.step (by with_reducible (repeat (first | assumption | apply OCEvent.drewN | apply OCEvent.drew | apply OCEvent.alloc))) hb_6
  clear j_5 k_5_p0 c_5_p0_0 c_5_p0_1 c_5_p0_2 c_5_p0_3 c_5_p0_4 c_5_p0_5 c_5_p0_6 l_5_p0 k_5_p1 c_5_p1_0 c_5_p1_1 l_5_p1 k_5_l1 c_5_l1_0 c_5_l1_1 c_5_l1_2 c_5_l1_3 c_5_l1_4 c_5_l1_5 c_5_l1_6 l_5_l1 k_5_l2 c_5_l2_0 c_5_l2_1 c_5_l2_2 c_5_l2_3 c_5_l2_4 c_5_l2_5 c_5_l2_6 l_5_l2 o_5_X2 o_5_X3 hb_5 k_5_l3 c_5_l3_0 c_5_l3_1 c_5_l3_2 c_5_l3_3 c_5_l3_4 c_5_l3_5 c_5_l3_6 l_5_l3
  go_wp2_with fail
  have hBw_6 : w_6.heap.size ≤ w_6.heap.size := Nat.le_refl _
  obtain ⟨B_6, hB_6⟩ : ∃ B, B = w_6.heap.size := ⟨_, rfl⟩
  have hBl_6 : B_6 ≤ w_6.heap.size := by omega
  have hBg_6 : w_6.heap.size ≤ B_6 := by omega
  clear hBw_6 hB_6
  refine wp_region_facts2 (JIEnterc w_6 zs0 r0 r1 r2 r3 r4 r5 f0v A0 n0 c0 z0 a0_0 a0_1 a0_2 a0_3 a0_4 a0_5 a1_0 a1_1 b_p1 b_p0 ha gs_2 g0_2 c0_2 g0_3 b_l2 hb gs_5 g0_5 c0_5) (JFEnterc B_6 zs0 r0 r1 r2 r3 r4 r5 f0v A0 n0 c0 z0 a0_0 a0_1 a0_2 a0_3 a0_4 a0_5 a1_0 a1_1 b_p1 b_p0 ha gs_2 g0_2 c0_2 g0_3 b_l2 hb gs_5 g0_5 c0_5) (fun j => j == 4) (fun k j => (k == 2 && (j == 1)) || (k == 3 && (j == 0 || j == 2)) || (k == 4 && (j == 3))) (by kernel_rfl) (by kernel_rfl) ⟨⟨fun _ => undef, rfl⟩, (In.refl _).drew⟩ ?_ ?_
  · intro a v1 i o ho hI haf
    obtain ⟨⟨f, rfl⟩, hin⟩ := hI
    have kv_p0 : Blk v1 (b_p0) 45 #[.slice A0 n0 c0, .int .i64 a0_0, .int .i64 a0_1, .int .i64 a0_2, .int .i64 a0_3, .int .i64 a0_4, .int .i64 a0_5] := Blk.step k_6_p0 hin.below
    have cv_p0_0 := kv_p0.cell 0
    have cv_p0_1 := kv_p0.cell 1
    have cv_p0_2 := kv_p0.cell 2
    have cv_p0_3 := kv_p0.cell 3
    have cv_p0_4 := kv_p0.cell 4
    have cv_p0_5 := kv_p0.cell 5
    have cv_p0_6 := kv_p0.cell 6
    have kv_l2 : Blk v1 (b_l2) 51 #[.slice (some ⟨g0_3, 0, none⟩) n0 n0, .int .i64 a0_0, .int .i64 a0_1, .int .i64 a0_2, .int .i64 a0_3, .int .i64 a0_4, .int .i64 a0_5] := Blk.step k_6_l2 hin.below
    have cv_l2_0 := kv_l2.cell 0
    have cv_l2_1 := kv_l2.cell 1
    have cv_l2_2 := kv_l2.cell 2
    have cv_l2_3 := kv_l2.cell 3
    have cv_l2_4 := kv_l2.cell 4
    have cv_l2_5 := kv_l2.cell 5
    have cv_l2_6 := kv_l2.cell 6
    have ov_X2 : OCEvent v1 g0_3 n0 n0 z0 := OCEvent.step o_6_X2 hin.below
    have ov_X3 : OCEvent v1 g0_5 zs0.length c0_5 zs0 := OCEvent.step o_6_X3 hin.below
    have hi : i < 5 := by
      rcases Nat.lt_or_ge i 5 with h | h
      · exact h
      · simp [h] at ho
    suffices H : ∀ K : Act → World → Prop, (∀ a' w', ((JIEnterc w_6 zs0 r0 r1 r2 r3 r4 r5 f0v A0 n0 c0 z0 a0_0 a0_1 a0_2 a0_3 a0_4 a0_5 a1_0 a1_1 b_p1 b_p0 ha gs_2 g0_2 c0_2 g0_3 b_l2 hb gs_5 g0_5 c0_5) a' w' ∧ (JFEnterc B_6 zs0 r0 r1 r2 r3 r4 r5 f0v A0 n0 c0 z0 a0_0 a0_1 a0_2 a0_3 a0_4 a0_5 a1_0 a1_1 b_p1 b_p0 ha gs_2 g0_2 c0_2 g0_3 b_l2 hb gs_5 g0_5 c0_5) i a' w' ∧ ∀ j, j ≠ i → waitsT _ 6 j i = false → ((fun j => j == 4) j || usesB _ (fun k j => (k == 2 && (j == 1)) || (k == 3 && (j == 0 || j == 2)) || (k == 4 && (j == 3))) i j) = true → (JFEnterc B_6 zs0 r0 r1 r2 r3 r4 r5 f0v A0 n0 c0 z0 a0_0 a0_1 a0_2 a0_3 a0_4 a0_5 a1_0 a1_1 b_p1 b_p0 ha gs_2 g0_2 c0_2 g0_3 b_l2 hb gs_5 g0_5 c0_5) j ⟨#[Value.agg #[Value.slice A0 n0 c0, Value.int IntKind.i64 a0_0, Value.int IntKind.i64 a0_1, Value.int IntKind.i64 a0_2, Value.int IntKind.i64 a0_3, Value.int IntKind.i64 a0_4, Value.int IntKind.i64 a0_5], Value.agg #[Value.int IntKind.i64 a1_0, Value.int IntKind.i64 a1_1], Value.pointer (some { block := b_p0, off := 0 }), Value.pointer (some { block := b_p1, off := 0 }), Value.bool false, Value.int IntKind.i64 (1048576 - ((n0 : Nat) : Int)), Value.pointer (some { block := gs_2, off := 0 }), Value.bool f0v, Value.pointer (some { block := b_l2, off := 0 }), Value.pointer (some { block := gs_5, off := 0 }), Value.bool f0v, undef, undef, undef, undef, undef, Value.agg #[Value.slice A0 n0 c0, Value.int IntKind.i64 a0_0, Value.int IntKind.i64 a0_1, Value.int IntKind.i64 a0_2, Value.int IntKind.i64 a0_3, Value.int IntKind.i64 a0_4, Value.int IntKind.i64 a0_5], Value.int IntKind.i64 1048576, Value.int IntKind.i64 (1048576 - ((n0 : Nat) : Int)), Value.int IntKind.i64 (1048576 - ((n0 : Nat) : Int)), Value.bool (decide (1048576 - ((n0 : Nat) : Int) < 0)), ha 21, ha 22, ha 23, ha 24, ha 25, ha 26, ha 27, ha 28, Value.agg #[Value.slice A0 n0 c0, Value.int IntKind.i64 a0_0, Value.int IntKind.i64 a0_1, Value.int IntKind.i64 a0_2, Value.int IntKind.i64 a0_3, Value.int IntKind.i64 a0_4, Value.int IntKind.i64 a0_5], Value.agg #[Value.slice (some { block := g0_3, off := 0 }) n0 n0, Value.int IntKind.i64 a0_0, Value.int IntKind.i64 a0_1, Value.int IntKind.i64 a0_2, Value.int IntKind.i64 a0_3, Value.int IntKind.i64 a0_4, Value.int IntKind.i64 a0_5], hb 31, hb 32, hb 33, hb 34, hb 35, hb 36, hb 37, Value.agg #[Value.slice (some { block := g0_5, off := 0 }) zs0.length c0_5, Value.int IntKind.i64 r0, Value.int IntKind.i64 r1, Value.int IntKind.i64 r2, Value.int IntKind.i64 r3, Value.int IntKind.i64 r4, Value.int IntKind.i64 r5], Value.agg #[Value.slice (some { block := g0_2, off := 0 }) zs0.length c0_2, Value.int IntKind.i64 r0, Value.int IntKind.i64 r1, Value.int IntKind.i64 r2, Value.int IntKind.i64 r3, Value.int IntKind.i64 r4, Value.int IntKind.i64 r5], Value.bool true, Value.bool false, Value.bool false, Value.bool f0v, Value.bool f0v, Value.bool false, Value.bool false, f 47, f 48, f 49, f 50, f 51, undef, undef, undef, undef, undef, undef, undef, undef, undef, undef, undef, undef, undef, undef, undef, undef, undef, undef, undef, undef, undef, undef, undef, undef, undef, undef, undef, undef, undef, undef, undef, undef, undef, undef, undef, undef, undef, undef, undef, undef, undef, undef, undef, undef, undef, undef, undef, undef, undef, undef, undef, undef], []⟩ v1 → (JFEnterc B_6 zs0 r0 r1 r2 r3 r4 r5 f0v A0 n0 c0 z0 a0_0 a0_1 a0_2 a0_3 a0_4 a0_5 a1_0 a1_1 b_p1 b_p0 ha gs_2 g0_2 c0_2 g0_3 b_l2 hb gs_5 g0_5 c0_5) j a' w') → K a' w') → wpOp _ _ _ i K ⟨#[Value.agg #[Value.slice A0 n0 c0, Value.int IntKind.i64 a0_0, Value.int IntKind.i64 a0_1, Value.int IntKind.i64 a0_2, Value.int IntKind.i64 a0_3, Value.int IntKind.i64 a0_4, Value.int IntKind.i64 a0_5], Value.agg #[Value.int IntKind.i64 a1_0, Value.int IntKind.i64 a1_1], Value.pointer (some { block := b_p0, off := 0 }), Value.pointer (some { block := b_p1, off := 0 }), Value.bool false, Value.int IntKind.i64 (1048576 - ((n0 : Nat) : Int)), Value.pointer (some { block := gs_2, off := 0 }), Value.bool f0v, Value.pointer (some { block := b_l2, off := 0 }), Value.pointer (some { block := gs_5, off := 0 }), Value.bool f0v, undef, undef, undef, undef, undef, Value.agg #[Value.slice A0 n0 c0, Value.int IntKind.i64 a0_0, Value.int IntKind.i64 a0_1, Value.int IntKind.i64 a0_2, Value.int IntKind.i64 a0_3, Value.int IntKind.i64 a0_4, Value.int IntKind.i64 a0_5], Value.int IntKind.i64 1048576, Value.int IntKind.i64 (1048576 - ((n0 : Nat) : Int)), Value.int IntKind.i64 (1048576 - ((n0 : Nat) : Int)), Value.bool (decide (1048576 - ((n0 : Nat) : Int) < 0)), ha 21, ha 22, ha 23, ha 24, ha 25, ha 26, ha 27, ha 28, Value.agg #[Value.slice A0 n0 c0, Value.int IntKind.i64 a0_0, Value.int IntKind.i64 a0_1, Value.int IntKind.i64 a0_2, Value.int IntKind.i64 a0_3, Value.int IntKind.i64 a0_4, Value.int IntKind.i64 a0_5], Value.agg #[Value.slice (some { block := g0_3, off := 0 }) n0 n0, Value.int IntKind.i64 a0_0, Value.int IntKind.i64 a0_1, Value.int IntKind.i64 a0_2, Value.int IntKind.i64 a0_3, Value.int IntKind.i64 a0_4, Value.int IntKind.i64 a0_5], hb 31, hb 32, hb 33, hb 34, hb 35, hb 36, hb 37, Value.agg #[Value.slice (some { block := g0_5, off := 0 }) zs0.length c0_5, Value.int IntKind.i64 r0, Value.int IntKind.i64 r1, Value.int IntKind.i64 r2, Value.int IntKind.i64 r3, Value.int IntKind.i64 r4, Value.int IntKind.i64 r5], Value.agg #[Value.slice (some { block := g0_2, off := 0 }) zs0.length c0_2, Value.int IntKind.i64 r0, Value.int IntKind.i64 r1, Value.int IntKind.i64 r2, Value.int IntKind.i64 r3, Value.int IntKind.i64 r4, Value.int IntKind.i64 r5], Value.bool true, Value.bool false, Value.bool false, Value.bool f0v, Value.bool f0v, Value.bool false, Value.bool false, f 47, f 48, f 49, f 50, f 51, undef, undef, undef, undef, undef, undef, undef, undef, undef, undef, undef, undef, undef, undef, undef, undef, undef, undef, undef, undef, undef, undef, undef, undef, undef, undef, undef, undef, undef, undef, undef, undef, undef, undef, undef, undef, undef, undef, undef, undef, undef, undef, undef, undef, undef, undef, undef, undef, undef, undef, undef, undef], []⟩ v1 from H _ fun _ _ h => h
    intro K hK
    rcases (by omega : i = 0 ∨ i = 1 ∨ i = 2 ∨ i = 3 ∨ i = 4) with rfl | rfl | rfl | rfl | rfl
    · obtain rfl := Option.some.inj ho
      refine wpOp_plain rfl rfl ?_
      unfold Oper.wp
      go_simp
      exact hK _ _ ⟨⟨⟨updf f 47 (.agg #[.slice (some ⟨g0_3, 0, none⟩) n0 n0, .int .i64 a0_0, .int .i64 a0_1, .int .i64 a0_2, .int .i64 a0_3, .int .i64 a0_4, .int .i64 a0_5]), rfl⟩, hin⟩, rfl, fun j hj hw hu hf => by
          rcases j with _ | _ | _ | _ | _ | j
          · exact absurd rfl hj
          · first | (have h9 : _ = _ := hf; exact h9) | rfl
          · exact hf
          · first | (have h9 : _ = _ := hf; exact h9) | rfl
          · first | (have h9 : _ = _ := hf; exact h9) | rfl
          · exact trivial⟩
    · obtain rfl := Option.some.inj ho
      refine wpOp_plain rfl rfl ?_
      unfold Oper.wp
      go_simp
      exact hK _ _ ⟨⟨⟨updf f 48 (.agg #[.slice A0 n0 c0, .int .i64 a0_0, .int .i64 a0_1, .int .i64 a0_2, .int .i64 a0_3, .int .i64 a0_4, .int .i64 a0_5]), rfl⟩, hin⟩, rfl, fun j hj hw hu hf => by
          rcases j with _ | _ | _ | _ | _ | j
          · first | (have h9 : _ = _ := hf; exact h9) | rfl
          · exact absurd rfl hj
          · exact hf
          · first | (have h9 : _ = _ := hf; exact h9) | rfl
          · first | (have h9 : _ = _ := hf; exact h9) | rfl
          · exact trivial⟩
    · obtain rfl := Option.some.inj ho
      have f1 := haf { on := 1, ground := .data } (by simp) rfl rfl
      have f1 : _ = _ := Option.some.inj f1
      refine wpOp_plain rfl rfl ?_
      unfold Oper.wp
      go_simp
      refine (toBook_w A0 n0 c0 z0 a0_0 a0_1 a0_2 a0_3 a0_4 a0_5 _ (by first | omega | (unfold maxLen; omega)) (R0.out.in_ ((IC.out.trans j_6).trans hin))).mono ?_
      rintro _ v2 ⟨g0_2, rfl, ho0, hg0, hb2⟩
      exact hK _ _ ⟨⟨⟨updf f 49 (.agg #[.slice (some ⟨g0_2, 0, none⟩) n0 n0, .int .i64 a0_0, .int .i64 a0_1, .int .i64 a0_2, .int .i64 a0_3, .int .i64 a0_4, .int .i64 a0_5]), rfl⟩, hin.step hb2⟩, ⟨g0_2, _, rfl, Nat.le_trans (Nat.le_trans hBl_6 hin.size) hg0, ho0⟩, fun j hj hw hu hf => by
          rcases j with _ | _ | _ | _ | _ | j
          · first | (have h9 : _ = _ := hf; exact h9) | rfl
          · first | (have h9 : _ = _ := hf; exact h9) | rfl
          · exact absurd rfl hj
          · first | (have h9 : _ = _ := hf; exact h9) | rfl
          · first | (have h9 : _ = _ := hf; exact h9) | rfl
          · exact trivial⟩
    · obtain rfl := Option.some.inj ho
      have f0 := haf { on := 0, ground := .data } (by simp) rfl rfl
      have f0 : _ = _ := Option.some.inj f0
      obtain ⟨g0_2, c0_2, f2, hb20, ho20⟩ := haf { on := 2, ground := .data } (by simp) rfl rfl
      have f2 : _ = _ := Option.some.inj f2
      refine wpOp_plain rfl rfl ?_
      unfold Oper.wp
      go_simp
      refine (eqBook_w (some ⟨g0_3, 0, none⟩) (some ⟨g0_2, 0, none⟩) n0 n0 c0_2 z0 a0_0 a0_1 a0_2 a0_3 a0_4 a0_5 _ (by first | omega | (unfold maxLen; omega)) (ov_X2.reads) (ho20.reads)).mono ?_
      rintro _ v2 ⟨rfl, hb2⟩
      exact hK _ _ ⟨⟨⟨updf f 50 (.bool true), rfl⟩, hin.step hb2⟩, rfl, fun j hj hw hu hf => by
          rcases j with _ | _ | _ | _ | _ | j
          · first | (have h9 : _ = _ := hf; exact h9) | rfl
          · first | (have h9 : _ = _ := hf; exact h9) | rfl
          · exact absurd (hu.symm.trans (show (_ || usesB _ _ _ _) = false by kernel_rfl)) (by decide)
          · exact absurd rfl hj
          · first | (have h9 : _ = _ := hf; exact h9) | rfl
          · exact trivial⟩
    · obtain rfl := Option.some.inj ho
      have f3 := haf { on := 3, ground := .data } (by simp) rfl rfl
      have f3 : _ = _ := Option.some.inj f3
      refine wpOp_plain rfl rfl ?_
      unfold Oper.wp
      go_simp
      exact hK _ _ ⟨⟨⟨updf f 51 (.bool false), rfl⟩, hin⟩, rfl, fun j hj hw hu hf => by
          rcases j with _ | _ | _ | _ | _ | j
          · first | (have h9 : _ = _ := hf; exact h9) | rfl
          · first | (have h9 : _ = _ := hf; exact h9) | rfl
          · exact hf
          · first | (have h9 : _ = _ := hf; exact h9) | rfl
          · exact absurd rfl hj
          · exact trivial⟩
  intro a w_7 hI hF
  obtain ⟨⟨hc, rfl⟩, hn_7⟩ := hI
  have hb_7 := hn_7.below
  have he_7_51 : hc 51 = _ := Option.some.inj (hF 4 (by decide) (by decide))
  clear hF
  rw [he_7_51]
  clear he_7_51
  have j_7 : In w_2.heap.size w_2 w_7 := In.step (by (repeat (first | exact In.refl _ | assumption | apply In.alloc | apply In.drewN | apply In.drew | (refine In.step ?_ (by assumption))))) hb_7
  have k_7_p0 : Blk w_7 (b_p0) 45 #[.slice A0 n0 c0, .int .i64 a0_0, .int .i64 a0_1, .int .i64 a0_2, .int .i64 a0_3, .int .i64 a0_4, .int .i64 a0_5] := Blk.step (by (with_reducible (repeat (first | assumption | exact Blk.new' (by simp) | apply Blk.drewN | apply Blk.drew | apply Blk.alloc | (refine Blk.far ?_ (by (try simp) <;> omega) _))))) hb_7
  have c_7_p0_0 : w_7.cell? ⟨b_p0, 0, none⟩ = some (.slice A0 n0 c0) := k_7_p0.cell 0
  have c_7_p0_1 : w_7.cell? ⟨b_p0, 1, none⟩ = some (.int .i64 a0_0) := k_7_p0.cell 1
  have c_7_p0_2 : w_7.cell? ⟨b_p0, 2, none⟩ = some (.int .i64 a0_1) := k_7_p0.cell 2
  have c_7_p0_3 : w_7.cell? ⟨b_p0, 3, none⟩ = some (.int .i64 a0_2) := k_7_p0.cell 3
  have c_7_p0_4 : w_7.cell? ⟨b_p0, 4, none⟩ = some (.int .i64 a0_3) := k_7_p0.cell 4
  have c_7_p0_5 : w_7.cell? ⟨b_p0, 5, none⟩ = some (.int .i64 a0_4) := k_7_p0.cell 5
  have c_7_p0_6 : w_7.cell? ⟨b_p0, 6, none⟩ = some (.int .i64 a0_5) := k_7_p0.cell 6
  have l_7_p0 := k_7_p0.lt
  have k_7_p1 : Blk w_7 (b_p1) 57 #[.int .i64 a1_0, .int .i64 a1_1] := Blk.step (by (with_reducible (repeat (first | assumption | exact Blk.new' (by simp) | apply Blk.drewN | apply Blk.drew | apply Blk.alloc | (refine Blk.far ?_ (by (try simp) <;> omega) _))))) hb_7
  have c_7_p1_0 : w_7.cell? ⟨b_p1, 0, none⟩ = some (.int .i64 a1_0) := k_7_p1.cell 0
  have c_7_p1_1 : w_7.cell? ⟨b_p1, 1, none⟩ = some (.int .i64 a1_1) := k_7_p1.cell 1
  have l_7_p1 := k_7_p1.lt
  have k_7_l1 : Blk w_7 (gs_2) 51 #[.slice (some ⟨g0_2, 0, none⟩) zs0.length c0_2, .int .i64 r0, .int .i64 r1, .int .i64 r2, .int .i64 r3, .int .i64 r4, .int .i64 r5] := Blk.step (by (with_reducible (repeat (first | assumption | exact Blk.new' (by simp) | apply Blk.drewN | apply Blk.drew | apply Blk.alloc | (refine Blk.far ?_ (by (try simp) <;> omega) _))))) hb_7
  have c_7_l1_0 : w_7.cell? ⟨gs_2, 0, none⟩ = some (.slice (some ⟨g0_2, 0, none⟩) zs0.length c0_2) := k_7_l1.cell 0
  have c_7_l1_1 : w_7.cell? ⟨gs_2, 1, none⟩ = some (.int .i64 r0) := k_7_l1.cell 1
  have c_7_l1_2 : w_7.cell? ⟨gs_2, 2, none⟩ = some (.int .i64 r1) := k_7_l1.cell 2
  have c_7_l1_3 : w_7.cell? ⟨gs_2, 3, none⟩ = some (.int .i64 r2) := k_7_l1.cell 3
  have c_7_l1_4 : w_7.cell? ⟨gs_2, 4, none⟩ = some (.int .i64 r3) := k_7_l1.cell 4
  have c_7_l1_5 : w_7.cell? ⟨gs_2, 5, none⟩ = some (.int .i64 r4) := k_7_l1.cell 5
  have c_7_l1_6 : w_7.cell? ⟨gs_2, 6, none⟩ = some (.int .i64 r5) := k_7_l1.cell 6
  have l_7_l1 := k_7_l1.lt
  have k_7_l2 : Blk w_7 (b_l2) 51 #[.slice (some ⟨g0_3, 0, none⟩) n0 n0, .int .i64 a0_0, .int .i64 a0_1, .int .i64 a0_2, .int .i64 a0_3, .int .i64 a0_4, .int .i64 a0_5] := Blk.step (by (with_reducible (repeat (first | assumption | exact Blk.new' (by simp) | apply Blk.drewN | apply Blk.drew | apply Blk.alloc | (refine Blk.far ?_ (by (try simp) <;> omega) _))))) hb_7
  have c_7_l2_0 : w_7.cell? ⟨b_l2, 0, none⟩ = some (.slice (some ⟨g0_3, 0, none⟩) n0 n0) := k_7_l2.cell 0
  have c_7_l2_1 : w_7.cell? ⟨b_l2, 1, none⟩ = some (.int .i64 a0_0) := k_7_l2.cell 1
  have c_7_l2_2 : w_7.cell? ⟨b_l2, 2, none⟩ = some (.int .i64 a0_1) := k_7_l2.cell 2
  have c_7_l2_3 : w_7.cell? ⟨b_l2, 3, none⟩ = some (.int .i64 a0_2) := k_7_l2.cell 3
  have c_7_l2_4 : w_7.cell? ⟨b_l2, 4, none⟩ = some (.int .i64 a0_3) := k_7_l2.cell 4
  have c_7_l2_5 : w_7.cell? ⟨b_l2, 5, none⟩ = some (.int .i64 a0_4) := k_7_l2.cell 5
  have c_7_l2_6 : w_7.cell? ⟨b_l2, 6, none⟩ = some (.int .i64 a0_5) := k_7_l2.cell 6
  have l_7_l2 := k_7_l2.lt
  have k_7_l3 : Blk w_7 (gs_5) 51 #[.slice (some ⟨g0_5, 0, none⟩) zs0.length c0_5, .int .i64 r0, .int .i64 r1, .int .i64 r2, .int .i64 r3, .int .i64 r4, .int .i64 r5] := Blk.step (by (with_reducible (repeat (first | assumption | exact Blk.new' (by simp) | apply Blk.drewN | apply Blk.drew | apply Blk.alloc | (refine Blk.far ?_ (by (try simp) <;> omega) _))))) hb_7
  have c_7_l3_0 : w_7.cell? ⟨gs_5, 0, none⟩ = some (.slice (some ⟨g0_5, 0, none⟩) zs0.length c0_5) := k_7_l3.cell 0
  have c_7_l3_1 : w_7.cell? ⟨gs_5, 1, none⟩ = some (.int .i64 r0) := k_7_l3.cell 1
  have c_7_l3_2 : w_7.cell? ⟨gs_5, 2, none⟩ = some (.int .i64 r1) := k_7_l3.cell 2
  have c_7_l3_3 : w_7.cell? ⟨gs_5, 3, none⟩ = some (.int .i64 r2) := k_7_l3.cell 3
  have c_7_l3_4 : w_7.cell? ⟨gs_5, 4, none⟩ = some (.int .i64 r3) := k_7_l3.cell 4
  have c_7_l3_5 : w_7.cell? ⟨gs_5, 5, none⟩ = some (.int .i64 r4) := k_7_l3.cell 5
  have c_7_l3_6 : w_7.cell? ⟨gs_5, 6, none⟩ = some (.int .i64 r5) := k_7_l3.cell 6
  have l_7_l3 := k_7_l3.lt
  have o_7_X2 : OCEvent w_7 g0_3 n0 n0 z0 := OCEvent.step (by with_reducible (repeat (first | assumption | apply OCEvent.drewN | apply OCEvent.drew | apply OCEvent.alloc))) hb_7
  have o_7_X3 : OCEvent w_7 g0_5 zs0.length c0_5 zs0 := OCEvent.step (by with_reducible (repeat (first | assumption | apply OCEvent.drewN | apply OCEvent.drew | apply OCEvent.alloc))) hb_7
  clear j_6 k_6_p0 c_6_p0_0 c_6_p0_1 c_6_p0_2 c_6_p0_3 c_6_p0_4 c_6_p0_5 c_6_p0_6 l_6_p0 k_6_p1 c_6_p1_0 c_6_p1_1 l_6_p1 k_6_l1 c_6_l1_0 c_6_l1_1 c_6_l1_2 c_6_l1_3 c_6_l1_4 c_6_l1_5 c_6_l1_6 l_6_l1 k_6_l2 c_6_l2_0 c_6_l2_1 c_6_l2_2 c_6_l2_3 c_6_l2_4 c_6_l2_5 c_6_l2_6 l_6_l2 k_6_l3 c_6_l3_0 c_6_l3_1 c_6_l3_2 c_6_l3_3 c_6_l3_4 c_6_l3_5 c_6_l3_6 l_6_l3 o_6_X2 o_6_X3 hb_6
  clear hn_7
  clear hBl_6 hBg_6
  go_wp2_with fail
  refine (markBook_w g0_3 n0 n0 z0 a0_0 a0_1 a0_2 a0_3 a0_4 a0_5 (1) _ (by omega) (by omega) (by with_reducible (repeat (first | assumption | apply OCEvent.drewN | apply OCEvent.drew | apply OCEvent.alloc)))).mono ?_
  rintro _ w_8 ⟨rfl, ho_8, hb_8⟩
  have o_8_X2 : OCEvent w_8 g0_3 n0 n0 (marksEvent (1) n0) := ho_8
  clear ho_8
  have j_8 : In w_2.heap.size w_2 w_8 := In.wide (by (repeat (first | exact In.refl _ | assumption | apply In.alloc | apply In.drewN | apply In.drew | (refine In.step ?_ (by assumption))))) (below_of_only hb_8 GX_X2.out (In.size (B := w_2.heap.size) (a := w_2) (by (repeat (first | exact In.refl _ | assumption | apply In.alloc | apply In.drewN | apply In.drew | (refine In.step ?_ (by assumption)))))))
  have k_8_p0 : Blk w_8 (b_p0) 45 #[.slice A0 n0 c0, .int .i64 a0_0, .int .i64 a0_1, .int .i64 a0_2, .int .i64 a0_3, .int .i64 a0_4, .int .i64 a0_5] := Blk.grown k_7_p0 hb_8 (fun h => (OCEvent.ne o_7_X2 k_7_p0 (by decide)) (Option.some.inj h).symm)
  have c_8_p0_0 : w_8.cell? ⟨b_p0, 0, none⟩ = some (.slice A0 n0 c0) := k_8_p0.cell 0
  have c_8_p0_1 : w_8.cell? ⟨b_p0, 1, none⟩ = some (.int .i64 a0_0) := k_8_p0.cell 1
  have c_8_p0_2 : w_8.cell? ⟨b_p0, 2, none⟩ = some (.int .i64 a0_1) := k_8_p0.cell 2
  have c_8_p0_3 : w_8.cell? ⟨b_p0, 3, none⟩ = some (.int .i64 a0_2) := k_8_p0.cell 3
  have c_8_p0_4 : w_8.cell? ⟨b_p0, 4, none⟩ = some (.int .i64 a0_3) := k_8_p0.cell 4
  have c_8_p0_5 : w_8.cell? ⟨b_p0, 5, none⟩ = some (.int .i64 a0_4) := k_8_p0.cell 5
  have c_8_p0_6 : w_8.cell? ⟨b_p0, 6, none⟩ = some (.int .i64 a0_5) := k_8_p0.cell 6
  have l_8_p0 := k_8_p0.lt
  have k_8_p1 : Blk w_8 (b_p1) 57 #[.int .i64 a1_0, .int .i64 a1_1] := Blk.grown k_7_p1 hb_8 (fun h => (OCEvent.ne o_7_X2 k_7_p1 (by decide)) (Option.some.inj h).symm)
  have c_8_p1_0 : w_8.cell? ⟨b_p1, 0, none⟩ = some (.int .i64 a1_0) := k_8_p1.cell 0
  have c_8_p1_1 : w_8.cell? ⟨b_p1, 1, none⟩ = some (.int .i64 a1_1) := k_8_p1.cell 1
  have l_8_p1 := k_8_p1.lt
  have k_8_l1 : Blk w_8 (gs_2) 51 #[.slice (some ⟨g0_2, 0, none⟩) zs0.length c0_2, .int .i64 r0, .int .i64 r1, .int .i64 r2, .int .i64 r3, .int .i64 r4, .int .i64 r5] := Blk.grown k_7_l1 hb_8 (fun h => (OCEvent.ne o_7_X2 k_7_l1 (by decide)) (Option.some.inj h).symm)
  have c_8_l1_0 : w_8.cell? ⟨gs_2, 0, none⟩ = some (.slice (some ⟨g0_2, 0, none⟩) zs0.length c0_2) := k_8_l1.cell 0
  have c_8_l1_1 : w_8.cell? ⟨gs_2, 1, none⟩ = some (.int .i64 r0) := k_8_l1.cell 1
  have c_8_l1_2 : w_8.cell? ⟨gs_2, 2, none⟩ = some (.int .i64 r1) := k_8_l1.cell 2
  have c_8_l1_3 : w_8.cell? ⟨gs_2, 3, none⟩ = some (.int .i64 r2) := k_8_l1.cell 3
  have c_8_l1_4 : w_8.cell? ⟨gs_2, 4, none⟩ = some (.int .i64 r3) := k_8_l1.cell 4
  have c_8_l1_5 : w_8.cell? ⟨gs_2, 5, none⟩ = some (.int .i64 r4) := k_8_l1.cell 5
  have c_8_l1_6 : w_8.cell? ⟨gs_2, 6, none⟩ = some (.int .i64 r5) := k_8_l1.cell 6
  have l_8_l1 := k_8_l1.lt
  have k_8_l2 : Blk w_8 (b_l2) 51 #[.slice (some ⟨g0_3, 0, none⟩) n0 n0, .int .i64 a0_0, .int .i64 a0_1, .int .i64 a0_2, .int .i64 a0_3, .int .i64 a0_4, .int .i64 a0_5] := Blk.grown k_7_l2 hb_8 (fun h => (OCEvent.ne o_7_X2 k_7_l2 (by decide)) (Option.some.inj h).symm)
  have c_8_l2_0 : w_8.cell? ⟨b_l2, 0, none⟩ = some (.slice (some ⟨g0_3, 0, none⟩) n0 n0) := k_8_l2.cell 0
  have c_8_l2_1 : w_8.cell? ⟨b_l2, 1, none⟩ = some (.int .i64 a0_0) := k_8_l2.cell 1
  have c_8_l2_2 : w_8.cell? ⟨b_l2, 2, none⟩ = some (.int .i64 a0_1) := k_8_l2.cell 2
  have c_8_l2_3 : w_8.cell? ⟨b_l2, 3, none⟩ = some (.int .i64 a0_2) := k_8_l2.cell 3
  have c_8_l2_4 : w_8.cell? ⟨b_l2, 4, none⟩ = some (.int .i64 a0_3) := k_8_l2.cell 4
  have c_8_l2_5 : w_8.cell? ⟨b_l2, 5, none⟩ = some (.int .i64 a0_4) := k_8_l2.cell 5
  have c_8_l2_6 : w_8.cell? ⟨b_l2, 6, none⟩ = some (.int .i64 a0_5) := k_8_l2.cell 6
  have l_8_l2 := k_8_l2.lt
  have k_8_l3 : Blk w_8 (gs_5) 51 #[.slice (some ⟨g0_5, 0, none⟩) zs0.length c0_5, .int .i64 r0, .int .i64 r1, .int .i64 r2, .int .i64 r3, .int .i64 r4, .int .i64 r5] := Blk.grown k_7_l3 hb_8 (fun h => (OCEvent.ne o_7_X2 k_7_l3 (by decide)) (Option.some.inj h).symm)
  have c_8_l3_0 : w_8.cell? ⟨gs_5, 0, none⟩ = some (.slice (some ⟨g0_5, 0, none⟩) zs0.length c0_5) := k_8_l3.cell 0
  have c_8_l3_1 : w_8.cell? ⟨gs_5, 1, none⟩ = some (.int .i64 r0) := k_8_l3.cell 1
  have c_8_l3_2 : w_8.cell? ⟨gs_5, 2, none⟩ = some (.int .i64 r1) := k_8_l3.cell 2
  have c_8_l3_3 : w_8.cell? ⟨gs_5, 3, none⟩ = some (.int .i64 r2) := k_8_l3.cell 3
  have c_8_l3_4 : w_8.cell? ⟨gs_5, 4, none⟩ = some (.int .i64 r3) := k_8_l3.cell 4
  have c_8_l3_5 : w_8.cell? ⟨gs_5, 5, none⟩ = some (.int .i64 r4) := k_8_l3.cell 5
  have c_8_l3_6 : w_8.cell? ⟨gs_5, 6, none⟩ = some (.int .i64 r5) := k_8_l3.cell 6
  have l_8_l3 := k_8_l3.lt
  have o_8_X3 : OCEvent w_8 g0_5 zs0.length c0_5 zs0 := OCEvent.only (by with_reducible (repeat (first | assumption | apply OCEvent.drewN | apply OCEvent.drew | apply OCEvent.alloc))) hb_8 (by first | exact NE_X3_X2.out | exact NE_X2_X3.out.symm)
  clear j_7 k_7_p0 c_7_p0_0 c_7_p0_1 c_7_p0_2 c_7_p0_3 c_7_p0_4 c_7_p0_5 c_7_p0_6 l_7_p0 k_7_p1 c_7_p1_0 c_7_p1_1 l_7_p1 k_7_l1 c_7_l1_0 c_7_l1_1 c_7_l1_2 c_7_l1_3 c_7_l1_4 c_7_l1_5 c_7_l1_6 l_7_l1 k_7_l2 c_7_l2_0 c_7_l2_1 c_7_l2_2 c_7_l2_3 c_7_l2_4 c_7_l2_5 c_7_l2_6 l_7_l2 k_7_l3 c_7_l3_0 c_7_l3_1 c_7_l3_2 c_7_l3_3 c_7_l3_4 c_7_l3_5 c_7_l3_6 l_7_l3 o_7_X2 o_7_X3 hb_7
  go_wp2_with fail
  refine (eqBook_w (some ⟨g0_5, 0, none⟩) (some ⟨g0_2, 0, none⟩) zs0.length c0_5 c0_2 zs0 r0 r1 r2 r3 r4 r5 _ (by first | omega | (unfold maxLen; omega)) (OCEvent.reads (by with_reducible (repeat (first | assumption | apply OCEvent.drewN | apply OCEvent.drew | apply OCEvent.alloc)))) (HW0.out.in_ (by (repeat (first | exact In.refl _ | assumption | apply In.alloc | apply In.drewN | apply In.drew | (refine In.step ?_ (by assumption))))))).mono ?_
  rintro _ w_9 ⟨rfl, hb_9⟩
  have j_9 : In w_2.heap.size w_2 w_9 := In.step (by (repeat (first | exact In.refl _ | assumption | apply In.alloc | apply In.drewN | apply In.drew | (refine In.step ?_ (by assumption))))) hb_9
  have k_9_p0 : Blk w_9 (b_p0) 45 #[.slice A0 n0 c0, .int .i64 a0_0, .int .i64 a0_1, .int .i64 a0_2, .int .i64 a0_3, .int .i64 a0_4, .int .i64 a0_5] := Blk.step (by (with_reducible (repeat (first | assumption | exact Blk.new' (by simp) | apply Blk.drewN | apply Blk.drew | apply Blk.alloc | (refine Blk.far ?_ (by (try simp) <;> omega) _))))) hb_9
  have c_9_p0_0 : w_9.cell? ⟨b_p0, 0, none⟩ = some (.slice A0 n0 c0) := k_9_p0.cell 0
  have c_9_p0_1 : w_9.cell? ⟨b_p0, 1, none⟩ = some (.int .i64 a0_0) := k_9_p0.cell 1
  have c_9_p0_2 : w_9.cell? ⟨b_p0, 2, none⟩ = some (.int .i64 a0_1) := k_9_p0.cell 2
  have c_9_p0_3 : w_9.cell? ⟨b_p0, 3, none⟩ = some (.int .i64 a0_2) := k_9_p0.cell 3
  have c_9_p0_4 : w_9.cell? ⟨b_p0, 4, none⟩ = some (.int .i64 a0_3) := k_9_p0.cell 4
  have c_9_p0_5 : w_9.cell? ⟨b_p0, 5, none⟩ = some (.int .i64 a0_4) := k_9_p0.cell 5
  have c_9_p0_6 : w_9.cell? ⟨b_p0, 6, none⟩ = some (.int .i64 a0_5) := k_9_p0.cell 6
  have l_9_p0 := k_9_p0.lt
  have k_9_p1 : Blk w_9 (b_p1) 57 #[.int .i64 a1_0, .int .i64 a1_1] := Blk.step (by (with_reducible (repeat (first | assumption | exact Blk.new' (by simp) | apply Blk.drewN | apply Blk.drew | apply Blk.alloc | (refine Blk.far ?_ (by (try simp) <;> omega) _))))) hb_9
  have c_9_p1_0 : w_9.cell? ⟨b_p1, 0, none⟩ = some (.int .i64 a1_0) := k_9_p1.cell 0
  have c_9_p1_1 : w_9.cell? ⟨b_p1, 1, none⟩ = some (.int .i64 a1_1) := k_9_p1.cell 1
  have l_9_p1 := k_9_p1.lt
  have k_9_l1 : Blk w_9 (gs_2) 51 #[.slice (some ⟨g0_2, 0, none⟩) zs0.length c0_2, .int .i64 r0, .int .i64 r1, .int .i64 r2, .int .i64 r3, .int .i64 r4, .int .i64 r5] := Blk.step (by (with_reducible (repeat (first | assumption | exact Blk.new' (by simp) | apply Blk.drewN | apply Blk.drew | apply Blk.alloc | (refine Blk.far ?_ (by (try simp) <;> omega) _))))) hb_9
  have c_9_l1_0 : w_9.cell? ⟨gs_2, 0, none⟩ = some (.slice (some ⟨g0_2, 0, none⟩) zs0.length c0_2) := k_9_l1.cell 0
  have c_9_l1_1 : w_9.cell? ⟨gs_2, 1, none⟩ = some (.int .i64 r0) := k_9_l1.cell 1
  have c_9_l1_2 : w_9.cell? ⟨gs_2, 2, none⟩ = some (.int .i64 r1) := k_9_l1.cell 2
  have c_9_l1_3 : w_9.cell? ⟨gs_2, 3, none⟩ = some (.int .i64 r2) := k_9_l1.cell 3
  have c_9_l1_4 : w_9.cell? ⟨gs_2, 4, none⟩ = some (.int .i64 r3) := k_9_l1.cell 4
  have c_9_l1_5 : w_9.cell? ⟨gs_2, 5, none⟩ = some (.int .i64 r4) := k_9_l1.cell 5
  have c_9_l1_6 : w_9.cell? ⟨gs_2, 6, none⟩ = some (.int .i64 r5) := k_9_l1.cell 6
  have l_9_l1 := k_9_l1.lt
  have k_9_l2 : Blk w_9 (b_l2) 51 #[.slice (some ⟨g0_3, 0, none⟩) n0 n0, .int .i64 a0_0, .int .i64 a0_1, .int .i64 a0_2, .int .i64 a0_3, .int .i64 a0_4, .int .i64 a0_5] := Blk.step (by (with_reducible (repeat (first | assumption | exact Blk.new' (by simp) | apply Blk.drewN | apply Blk.drew | apply Blk.alloc | (refine Blk.far ?_ (by (try simp) <;> omega) _))))) hb_9
  have c_9_l2_0 : w_9.cell? ⟨b_l2, 0, none⟩ = some (.slice (some ⟨g0_3, 0, none⟩) n0 n0) := k_9_l2.cell 0
  have c_9_l2_1 : w_9.cell? ⟨b_l2, 1, none⟩ = some (.int .i64 a0_0) := k_9_l2.cell 1
  have c_9_l2_2 : w_9.cell? ⟨b_l2, 2, none⟩ = some (.int .i64 a0_1) := k_9_l2.cell 2
  have c_9_l2_3 : w_9.cell? ⟨b_l2, 3, none⟩ = some (.int .i64 a0_2) := k_9_l2.cell 3
  have c_9_l2_4 : w_9.cell? ⟨b_l2, 4, none⟩ = some (.int .i64 a0_3) := k_9_l2.cell 4
  have c_9_l2_5 : w_9.cell? ⟨b_l2, 5, none⟩ = some (.int .i64 a0_4) := k_9_l2.cell 5
  have c_9_l2_6 : w_9.cell? ⟨b_l2, 6, none⟩ = some (.int .i64 a0_5) := k_9_l2.cell 6
  have l_9_l2 := k_9_l2.lt
  have k_9_l3 : Blk w_9 (gs_5) 51 #[.slice (some ⟨g0_5, 0, none⟩) zs0.length c0_5, .int .i64 r0, .int .i64 r1, .int .i64 r2, .int .i64 r3, .int .i64 r4, .int .i64 r5] := Blk.step (by (with_reducible (repeat (first | assumption | exact Blk.new' (by simp) | apply Blk.drewN | apply Blk.drew | apply Blk.alloc | (refine Blk.far ?_ (by (try simp) <;> omega) _))))) hb_9
  have c_9_l3_0 : w_9.cell? ⟨gs_5, 0, none⟩ = some (.slice (some ⟨g0_5, 0, none⟩) zs0.length c0_5) := k_9_l3.cell 0
  have c_9_l3_1 : w_9.cell? ⟨gs_5, 1, none⟩ = some (.int .i64 r0) := k_9_l3.cell 1
  have c_9_l3_2 : w_9.cell? ⟨gs_5, 2, none⟩ = some (.int .i64 r1) := k_9_l3.cell 2
  have c_9_l3_3 : w_9.cell? ⟨gs_5, 3, none⟩ = some (.int .i64 r2) := k_9_l3.cell 3
  have c_9_l3_4 : w_9.cell? ⟨gs_5, 4, none⟩ = some (.int .i64 r3) := k_9_l3.cell 4
  have c_9_l3_5 : w_9.cell? ⟨gs_5, 5, none⟩ = some (.int .i64 r4) := k_9_l3.cell 5
  have c_9_l3_6 : w_9.cell? ⟨gs_5, 6, none⟩ = some (.int .i64 r5) := k_9_l3.cell 6
  have l_9_l3 := k_9_l3.lt
  have o_9_X2 : OCEvent w_9 g0_3 n0 n0 (marksEvent (1) n0) := OCEvent.step (by with_reducible (repeat (first | assumption | apply OCEvent.drewN | apply OCEvent.drew | apply OCEvent.alloc))) hb_9
  have o_9_X3 : OCEvent w_9 g0_5 zs0.length c0_5 zs0 := OCEvent.step (by with_reducible (repeat (first | assumption | apply OCEvent.drewN | apply OCEvent.drew | apply OCEvent.alloc))) hb_9
  clear j_8 k_8_p0 c_8_p0_0 c_8_p0_1 c_8_p0_2 c_8_p0_3 c_8_p0_4 c_8_p0_5 c_8_p0_6 l_8_p0 k_8_p1 c_8_p1_0 c_8_p1_1 l_8_p1 k_8_l1 c_8_l1_0 c_8_l1_1 c_8_l1_2 c_8_l1_3 c_8_l1_4 c_8_l1_5 c_8_l1_6 l_8_l1 k_8_l2 c_8_l2_0 c_8_l2_1 c_8_l2_2 c_8_l2_3 c_8_l2_4 c_8_l2_5 c_8_l2_6 l_8_l2 k_8_l3 c_8_l3_0 c_8_l3_1 c_8_l3_2 c_8_l3_3 c_8_l3_4 c_8_l3_5 c_8_l3_6 l_8_l3 o_8_X2 o_8_X3 hb_8
  go_wp2_with fail
  refine (markBook_w g0_5 zs0.length c0_5 zs0 r0 r1 r2 r3 r4 r5 (1) _ (by omega) (by omega) (by with_reducible (repeat (first | assumption | apply OCEvent.drewN | apply OCEvent.drew | apply OCEvent.alloc)))).mono ?_
  rintro _ w_10 ⟨rfl, ho_10, hb_10⟩
  have o_10_X3 : OCEvent w_10 g0_5 zs0.length c0_5 (marksEvent (1) zs0.length) := ho_10
  clear ho_10
  have j_10 : In w_2.heap.size w_2 w_10 := In.wide (by (repeat (first | exact In.refl _ | assumption | apply In.alloc | apply In.drewN | apply In.drew | (refine In.step ?_ (by assumption))))) (below_of_only hb_10 GX_X3.out (In.size (B := w_2.heap.size) (a := w_2) (by (repeat (first | exact In.refl _ | assumption | apply In.alloc | apply In.drewN | apply In.drew | (refine In.step ?_ (by assumption)))))))
  have k_10_p0 : Blk w_10 (b_p0) 45 #[.slice A0 n0 c0, .int .i64 a0_0, .int .i64 a0_1, .int .i64 a0_2, .int .i64 a0_3, .int .i64 a0_4, .int .i64 a0_5] := Blk.grown k_9_p0 hb_10 (fun h => (OCEvent.ne o_9_X3 k_9_p0 (by decide)) (Option.some.inj h).symm)
  have c_10_p0_0 : w_10.cell? ⟨b_p0, 0, none⟩ = some (.slice A0 n0 c0) := k_10_p0.cell 0
  have c_10_p0_1 : w_10.cell? ⟨b_p0, 1, none⟩ = some (.int .i64 a0_0) := k_10_p0.cell 1
  have c_10_p0_2 : w_10.cell? ⟨b_p0, 2, none⟩ = some (.int .i64 a0_1) := k_10_p0.cell 2
  have c_10_p0_3 : w_10.cell? ⟨b_p0, 3, none⟩ = some (.int .i64 a0_2) := k_10_p0.cell 3
  have c_10_p0_4 : w_10.cell? ⟨b_p0, 4, none⟩ = some (.int .i64 a0_3) := k_10_p0.cell 4
  have c_10_p0_5 : w_10.cell? ⟨b_p0, 5, none⟩ = some (.int .i64 a0_4) := k_10_p0.cell 5
  have c_10_p0_6 : w_10.cell? ⟨b_p0, 6, none⟩ = some (.int .i64 a0_5) := k_10_p0.cell 6
  have l_10_p0 := k_10_p0.lt
  have k_10_p1 : Blk w_10 (b_p1) 57 #[.int .i64 a1_0, .int .i64 a1_1] := Blk.grown k_9_p1 hb_10 (fun h => (OCEvent.ne o_9_X3 k_9_p1 (by decide)) (Option.some.inj h).symm)
  have c_10_p1_0 : w_10.cell? ⟨b_p1, 0, none⟩ = some (.int .i64 a1_0) := k_10_p1.cell 0
  have c_10_p1_1 : w_10.cell? ⟨b_p1, 1, none⟩ = some (.int .i64 a1_1) := k_10_p1.cell 1
  have l_10_p1 := k_10_p1.lt
  have k_10_l1 : Blk w_10 (gs_2) 51 #[.slice (some ⟨g0_2, 0, none⟩) zs0.length c0_2, .int .i64 r0, .int .i64 r1, .int .i64 r2, .int .i64 r3, .int .i64 r4, .int .i64 r5] := Blk.grown k_9_l1 hb_10 (fun h => (OCEvent.ne o_9_X3 k_9_l1 (by decide)) (Option.some.inj h).symm)
  have c_10_l1_0 : w_10.cell? ⟨gs_2, 0, none⟩ = some (.slice (some ⟨g0_2, 0, none⟩) zs0.length c0_2) := k_10_l1.cell 0
  have c_10_l1_1 : w_10.cell? ⟨gs_2, 1, none⟩ = some (.int .i64 r0) := k_10_l1.cell 1
  have c_10_l1_2 : w_10.cell? ⟨gs_2, 2, none⟩ = some (.int .i64 r1) := k_10_l1.cell 2
  have c_10_l1_3 : w_10.cell? ⟨gs_2, 3, none⟩ = some (.int .i64 r2) := k_10_l1.cell 3
  have c_10_l1_4 : w_10.cell? ⟨gs_2, 4, none⟩ = some (.int .i64 r3) := k_10_l1.cell 4
  have c_10_l1_5 : w_10.cell? ⟨gs_2, 5, none⟩ = some (.int .i64 r4) := k_10_l1.cell 5
  have c_10_l1_6 : w_10.cell? ⟨gs_2, 6, none⟩ = some (.int .i64 r5) := k_10_l1.cell 6
  have l_10_l1 := k_10_l1.lt
  have k_10_l2 : Blk w_10 (b_l2) 51 #[.slice (some ⟨g0_3, 0, none⟩) n0 n0, .int .i64 a0_0, .int .i64 a0_1, .int .i64 a0_2, .int .i64 a0_3, .int .i64 a0_4, .int .i64 a0_5] := Blk.grown k_9_l2 hb_10 (fun h => (OCEvent.ne o_9_X3 k_9_l2 (by decide)) (Option.some.inj h).symm)
  have c_10_l2_0 : w_10.cell? ⟨b_l2, 0, none⟩ = some (.slice (some ⟨g0_3, 0, none⟩) n0 n0) := k_10_l2.cell 0
  have c_10_l2_1 : w_10.cell? ⟨b_l2, 1, none⟩ = some (.int .i64 a0_0) := k_10_l2.cell 1
  have c_10_l2_2 : w_10.cell? ⟨b_l2, 2, none⟩ = some (.int .i64 a0_1) := k_10_l2.cell 2
  have c_10_l2_3 : w_10.cell? ⟨b_l2, 3, none⟩ = some (.int .i64 a0_2) := k_10_l2.cell 3
  have c_10_l2_4 : w_10.cell? ⟨b_l2, 4, none⟩ = some (.int .i64 a0_3) := k_10_l2.cell 4
  have c_10_l2_5 : w_10.cell? ⟨b_l2, 5, none⟩ = some (.int .i64 a0_4) := k_10_l2.cell 5
  have c_10_l2_6 : w_10.cell? ⟨b_l2, 6, none⟩ = some (.int .i64 a0_5) := k_10_l2.cell 6
  have l_10_l2 := k_10_l2.lt
  have k_10_l3 : Blk w_10 (gs_5) 51 #[.slice (some ⟨g0_5, 0, none⟩) zs0.length c0_5, .int .i64 r0, .int .i64 r1, .int .i64 r2, .int .i64 r3, .int .i64 r4, .int .i64 r5] := Blk.grown k_9_l3 hb_10 (fun h => (OCEvent.ne o_9_X3 k_9_l3 (by decide)) (Option.some.inj h).symm)
  have c_10_l3_0 : w_10.cell? ⟨gs_5, 0, none⟩ = some (.slice (some ⟨g0_5, 0, none⟩) zs0.length c0_5) := k_10_l3.cell 0
  have c_10_l3_1 : w_10.cell? ⟨gs_5, 1, none⟩ = some (.int .i64 r0) := k_10_l3.cell 1
  have c_10_l3_2 : w_10.cell? ⟨gs_5, 2, none⟩ = some (.int .i64 r1) := k_10_l3.cell 2
  have c_10_l3_3 : w_10.cell? ⟨gs_5, 3, none⟩ = some (.int .i64 r2) := k_10_l3.cell 3
  have c_10_l3_4 : w_10.cell? ⟨gs_5, 4, none⟩ = some (.int .i64 r3) := k_10_l3.cell 4
  have c_10_l3_5 : w_10.cell? ⟨gs_5, 5, none⟩ = some (.int .i64 r4) := k_10_l3.cell 5
  have c_10_l3_6 : w_10.cell? ⟨gs_5, 6, none⟩ = some (.int .i64 r5) := k_10_l3.cell 6
  have l_10_l3 := k_10_l3.lt
  have o_10_X2 : OCEvent w_10 g0_3 n0 n0 (marksEvent (1) n0) := OCEvent.only (by with_reducible (repeat (first | assumption | apply OCEvent.drewN | apply OCEvent.drew | apply OCEvent.alloc))) hb_10 (by first | exact NE_X2_X3.out | exact NE_X3_X2.out.symm)
  clear j_9 k_9_p0 c_9_p0_0 c_9_p0_1 c_9_p0_2 c_9_p0_3 c_9_p0_4 c_9_p0_5 c_9_p0_6 l_9_p0 k_9_p1 c_9_p1_0 c_9_p1_1 l_9_p1 k_9_l1 c_9_l1_0 c_9_l1_1 c_9_l1_2 c_9_l1_3 c_9_l1_4 c_9_l1_5 c_9_l1_6 l_9_l1 k_9_l2 c_9_l2_0 c_9_l2_1 c_9_l2_2 c_9_l2_3 c_9_l2_4 c_9_l2_5 c_9_l2_6 l_9_l2 k_9_l3 c_9_l3_0 c_9_l3_1 c_9_l3_2 c_9_l3_3 c_9_l3_4 c_9_l3_5 c_9_l3_6 l_9_l3 o_9_X2 o_9_X3 hb_9
  go_wp2_with fail
  refine (heldBook_w (some ⟨g0_5, 0, none⟩) zs0.length c0_5 r0 r1 r2 r3 r4 r5 (1) _ (by omega) (by omega) (OCEvent.reads (by with_reducible (repeat (first | assumption | apply OCEvent.drewN | apply OCEvent.drew | apply OCEvent.alloc))))).mono ?_
  rintro _ w_11 ⟨rfl, hb_11⟩
  have j_11 : In w_2.heap.size w_2 w_11 := In.step (by (repeat (first | exact In.refl _ | assumption | apply In.alloc | apply In.drewN | apply In.drew | (refine In.step ?_ (by assumption))))) hb_11
  have k_11_p0 : Blk w_11 (b_p0) 45 #[.slice A0 n0 c0, .int .i64 a0_0, .int .i64 a0_1, .int .i64 a0_2, .int .i64 a0_3, .int .i64 a0_4, .int .i64 a0_5] := Blk.step (by (with_reducible (repeat (first | assumption | exact Blk.new' (by simp) | apply Blk.drewN | apply Blk.drew | apply Blk.alloc | (refine Blk.far ?_ (by (try simp) <;> omega) _))))) hb_11
  have c_11_p0_0 : w_11.cell? ⟨b_p0, 0, none⟩ = some (.slice A0 n0 c0) := k_11_p0.cell 0
  have c_11_p0_1 : w_11.cell? ⟨b_p0, 1, none⟩ = some (.int .i64 a0_0) := k_11_p0.cell 1
  have c_11_p0_2 : w_11.cell? ⟨b_p0, 2, none⟩ = some (.int .i64 a0_1) := k_11_p0.cell 2
  have c_11_p0_3 : w_11.cell? ⟨b_p0, 3, none⟩ = some (.int .i64 a0_2) := k_11_p0.cell 3
  have c_11_p0_4 : w_11.cell? ⟨b_p0, 4, none⟩ = some (.int .i64 a0_3) := k_11_p0.cell 4
  have c_11_p0_5 : w_11.cell? ⟨b_p0, 5, none⟩ = some (.int .i64 a0_4) := k_11_p0.cell 5
  have c_11_p0_6 : w_11.cell? ⟨b_p0, 6, none⟩ = some (.int .i64 a0_5) := k_11_p0.cell 6
  have l_11_p0 := k_11_p0.lt
  have k_11_p1 : Blk w_11 (b_p1) 57 #[.int .i64 a1_0, .int .i64 a1_1] := Blk.step (by (with_reducible (repeat (first | assumption | exact Blk.new' (by simp) | apply Blk.drewN | apply Blk.drew | apply Blk.alloc | (refine Blk.far ?_ (by (try simp) <;> omega) _))))) hb_11
  have c_11_p1_0 : w_11.cell? ⟨b_p1, 0, none⟩ = some (.int .i64 a1_0) := k_11_p1.cell 0
  have c_11_p1_1 : w_11.cell? ⟨b_p1, 1, none⟩ = some (.int .i64 a1_1) := k_11_p1.cell 1
  have l_11_p1 := k_11_p1.lt
  have k_11_l1 : Blk w_11 (gs_2) 51 #[.slice (some ⟨g0_2, 0, none⟩) zs0.length c0_2, .int .i64 r0, .int .i64 r1, .int .i64 r2, .int .i64 r3, .int .i64 r4, .int .i64 r5] := Blk.step (by (with_reducible (repeat (first | assumption | exact Blk.new' (by simp) | apply Blk.drewN | apply Blk.drew | apply Blk.alloc | (refine Blk.far ?_ (by (try simp) <;> omega) _))))) hb_11
  have c_11_l1_0 : w_11.cell? ⟨gs_2, 0, none⟩ = some (.slice (some ⟨g0_2, 0, none⟩) zs0.length c0_2) := k_11_l1.cell 0
  have c_11_l1_1 : w_11.cell? ⟨gs_2, 1, none⟩ = some (.int .i64 r0) := k_11_l1.cell 1
  have c_11_l1_2 : w_11.cell? ⟨gs_2, 2, none⟩ = some (.int .i64 r1) := k_11_l1.cell 2
  have c_11_l1_3 : w_11.cell? ⟨gs_2, 3, none⟩ = some (.int .i64 r2) := k_11_l1.cell 3
  have c_11_l1_4 : w_11.cell? ⟨gs_2, 4, none⟩ = some (.int .i64 r3) := k_11_l1.cell 4
  have c_11_l1_5 : w_11.cell? ⟨gs_2, 5, none⟩ = some (.int .i64 r4) := k_11_l1.cell 5
  have c_11_l1_6 : w_11.cell? ⟨gs_2, 6, none⟩ = some (.int .i64 r5) := k_11_l1.cell 6
  have l_11_l1 := k_11_l1.lt
  have k_11_l2 : Blk w_11 (b_l2) 51 #[.slice (some ⟨g0_3, 0, none⟩) n0 n0, .int .i64 a0_0, .int .i64 a0_1, .int .i64 a0_2, .int .i64 a0_3, .int .i64 a0_4, .int .i64 a0_5] := Blk.step (by (with_reducible (repeat (first | assumption | exact Blk.new' (by simp) | apply Blk.drewN | apply Blk.drew | apply Blk.alloc | (refine Blk.far ?_ (by (try simp) <;> omega) _))))) hb_11
  have c_11_l2_0 : w_11.cell? ⟨b_l2, 0, none⟩ = some (.slice (some ⟨g0_3, 0, none⟩) n0 n0) := k_11_l2.cell 0
  have c_11_l2_1 : w_11.cell? ⟨b_l2, 1, none⟩ = some (.int .i64 a0_0) := k_11_l2.cell 1
  have c_11_l2_2 : w_11.cell? ⟨b_l2, 2, none⟩ = some (.int .i64 a0_1) := k_11_l2.cell 2
  have c_11_l2_3 : w_11.cell? ⟨b_l2, 3, none⟩ = some (.int .i64 a0_2) := k_11_l2.cell 3
  have c_11_l2_4 : w_11.cell? ⟨b_l2, 4, none⟩ = some (.int .i64 a0_3) := k_11_l2.cell 4
  have c_11_l2_5 : w_11.cell? ⟨b_l2, 5, none⟩ = some (.int .i64 a0_4) := k_11_l2.cell 5
  have c_11_l2_6 : w_11.cell? ⟨b_l2, 6, none⟩ = some (.int .i64 a0_5) := k_11_l2.cell 6
  have l_11_l2 := k_11_l2.lt
  have k_11_l3 : Blk w_11 (gs_5) 51 #[.slice (some ⟨g0_5, 0, none⟩) zs0.length c0_5, .int .i64 r0, .int .i64 r1, .int .i64 r2, .int .i64 r3, .int .i64 r4, .int .i64 r5] := Blk.step (by (with_reducible (repeat (first | assumption | exact Blk.new' (by simp) | apply Blk.drewN | apply Blk.drew | apply Blk.alloc | (refine Blk.far ?_ (by (try simp) <;> omega) _))))) hb_11
  have c_11_l3_0 : w_11.cell? ⟨gs_5, 0, none⟩ = some (.slice (some ⟨g0_5, 0, none⟩) zs0.length c0_5) := k_11_l3.cell 0
  have c_11_l3_1 : w_11.cell? ⟨gs_5, 1, none⟩ = some (.int .i64 r0) := k_11_l3.cell 1
  have c_11_l3_2 : w_11.cell? ⟨gs_5, 2, none⟩ = some (.int .i64 r1) := k_11_l3.cell 2
  have c_11_l3_3 : w_11.cell? ⟨gs_5, 3, none⟩ = some (.int .i64 r2) := k_11_l3.cell 3
  have c_11_l3_4 : w_11.cell? ⟨gs_5, 4, none⟩ = some (.int .i64 r3) := k_11_l3.cell 4
  have c_11_l3_5 : w_11.cell? ⟨gs_5, 5, none⟩ = some (.int .i64 r4) := k_11_l3.cell 5
  have c_11_l3_6 : w_11.cell? ⟨gs_5, 6, none⟩ = some (.int .i64 r5) := k_11_l3.cell 6
  have l_11_l3 := k_11_l3.lt
  have o_11_X2 : OCEvent w_11 g0_3 n0 n0 (marksEvent (1) n0) := OCEvent.step (by with_reducible (repeat (first | assumption | apply OCEvent.drewN | apply OCEvent.drew | apply OCEvent.alloc))) hb_11
  have o_11_X3 : OCEvent w_11 g0_5 zs0.length c0_5 (marksEvent (1) zs0.length) := OCEvent.step (by with_reducible (repeat (first | assumption | apply OCEvent.drewN | apply OCEvent.drew | apply OCEvent.alloc))) hb_11
  clear j_10 k_10_p0 c_10_p0_0 c_10_p0_1 c_10_p0_2 c_10_p0_3 c_10_p0_4 c_10_p0_5 c_10_p0_6 l_10_p0 k_10_p1 c_10_p1_0 c_10_p1_1 l_10_p1 k_10_l1 c_10_l1_0 c_10_l1_1 c_10_l1_2 c_10_l1_3 c_10_l1_4 c_10_l1_5 c_10_l1_6 l_10_l1 k_10_l2 c_10_l2_0 c_10_l2_1 c_10_l2_2 c_10_l2_3 c_10_l2_4 c_10_l2_5 c_10_l2_6 l_10_l2 k_10_l3 c_10_l3_0 c_10_l3_1 c_10_l3_2 c_10_l3_3 c_10_l3_4 c_10_l3_5 c_10_l3_6 l_10_l3 o_10_X2 o_10_X3 hb_10
  go_wp2_with fail
  have hBw_11 : w_11.heap.size ≤ w_11.heap.size := Nat.le_refl _
  obtain ⟨B_11, hB_11⟩ : ∃ B, B = w_11.heap.size := ⟨_, rfl⟩
  have hBl_11 : B_11 ≤ w_11.heap.size := by omega
  have hBg_11 : w_11.heap.size ≤ B_11 := by omega
  clear hBw_11 hB_11
  refine wp_region_facts2 (JIEnterd w_11 zs0 r0 r1 r2 r3 r4 r5 f0v A0 n0 c0 z0 a0_0 a0_1 a0_2 a0_3 a0_4 a0_5 a1_0 a1_1 b_p1 b_p0 ha gs_2 g0_2 c0_2 g0_3 b_l2 hb gs_5 g0_5 c0_5 hc) (JFEnterd B_11 zs0 r0 r1 r2 r3 r4 r5 f0v A0 n0 c0 z0 a0_0 a0_1 a0_2 a0_3 a0_4 a0_5 a1_0 a1_1 b_p1 b_p0 ha gs_2 g0_2 c0_2 g0_3 b_l2 hb gs_5 g0_5 c0_5 hc) (fun j => j == 9 || j == 10) (fun k j => (k == 1 && (j == 0)) || (k == 3 && (j == 2)) || (k == 4 && (j == 1 || j == 3)) || (k == 5 && (j == 4)) || (k == 6 && (j == 5)) || (k == 7 && (j == 5)) || (k == 9 && (j == 6 || j == 8)) || (k == 10 && (j == 7))) (by kernel_rfl) (by kernel_rfl) ⟨⟨fun _ => undef, rfl⟩, (In.refl _).drew⟩ ?_ ?_
  · intro a v1 i o ho hI haf
    obtain ⟨⟨f, rfl⟩, hin⟩ := hI
    have kv_p0 : Blk v1 (b_p0) 45 #[.slice A0 n0 c0, .int .i64 a0_0, .int .i64 a0_1, .int .i64 a0_2, .int .i64 a0_3, .int .i64 a0_4, .int .i64 a0_5] := Blk.step k_11_p0 hin.below
    have cv_p0_0 := kv_p0.cell 0
    have cv_p0_1 := kv_p0.cell 1
    have cv_p0_2 := kv_p0.cell 2
    have cv_p0_3 := kv_p0.cell 3
    have cv_p0_4 := kv_p0.cell 4
    have cv_p0_5 := kv_p0.cell 5
    have cv_p0_6 := kv_p0.cell 6
    have kv_p1 : Blk v1 (b_p1) 57 #[.int .i64 a1_0, .int .i64 a1_1] := Blk.step k_11_p1 hin.below
    have cv_p1_0 := kv_p1.cell 0
    have cv_p1_1 := kv_p1.cell 1
    have ov_X2 : OCEvent v1 g0_3 n0 n0 (marksEvent (1) n0) := OCEvent.step o_11_X2 hin.below
    have ov_X3 : OCEvent v1 g0_5 zs0.length c0_5 (marksEvent (1) zs0.length) := OCEvent.step o_11_X3 hin.below
    have hi : i < 11 := by
      rcases Nat.lt_or_ge i 11 with h | h
      · exact h
      · simp [h] at ho
    suffices H : ∀ K : Act → World → Prop, (∀ a' w', ((JIEnterd w_11 zs0 r0 r1 r2 r3 r4 r5 f0v A0 n0 c0 z0 a0_0 a0_1 a0_2 a0_3 a0_4 a0_5 a1_0 a1_1 b_p1 b_p0 ha gs_2 g0_2 c0_2 g0_3 b_l2 hb gs_5 g0_5 c0_5 hc) a' w' ∧ (JFEnterd B_11 zs0 r0 r1 r2 r3 r4 r5 f0v A0 n0 c0 z0 a0_0 a0_1 a0_2 a0_3 a0_4 a0_5 a1_0 a1_1 b_p1 b_p0 ha gs_2 g0_2 c0_2 g0_3 b_l2 hb gs_5 g0_5 c0_5 hc) i a' w' ∧ ∀ j, j ≠ i → waitsT _ 6 j i = false → ((fun j => j == 9 || j == 10) j || usesB _ (fun k j => (k == 1 && (j == 0)) || (k == 3 && (j == 2)) || (k == 4 && (j == 1 || j == 3)) || (k == 5 && (j == 4)) || (k == 6 && (j == 5)) || (k == 7 && (j == 5)) || (k == 9 && (j == 6 || j == 8)) || (k == 10 && (j == 7))) i j) = true → (JFEnterd B_11 zs0 r0 r1 r2 r3 r4 r5 f0v A0 n0 c0 z0 a0_0 a0_1 a0_2 a0_3 a0_4 a0_5 a1_0 a1_1 b_p1 b_p0 ha gs_2 g0_2 c0_2 g0_3 b_l2 hb gs_5 g0_5 c0_5 hc) j ⟨#[Value.agg #[Value.slice A0 n0 c0, Value.int IntKind.i64 a0_0, Value.int IntKind.i64 a0_1, Value.int IntKind.i64 a0_2, Value.int IntKind.i64 a0_3, Value.int IntKind.i64 a0_4, Value.int IntKind.i64 a0_5], Value.agg #[Value.int IntKind.i64 a1_0, Value.int IntKind.i64 a1_1], Value.pointer (some { block := b_p0, off := 0 }), Value.pointer (some { block := b_p1, off := 0 }), Value.bool false, Value.int IntKind.i64 (1048576 - ((n0 : Nat) : Int)), Value.pointer (some { block := gs_2, off := 0 }), Value.bool f0v, Value.pointer (some { block := b_l2, off := 0 }), Value.pointer (some { block := gs_5, off := 0 }), Value.bool f0v, Value.int IntKind.i64 (1 + 2 * ((n0 : Nat) : Int)), Value.int IntKind.i64 (1 + 2 * ((zs0.length : Nat) : Int)), Value.int IntKind.i64 (1 + 2 * ((zs0.length : Nat) : Int)), f 14, f 15, Value.agg #[Value.slice A0 n0 c0, Value.int IntKind.i64 a0_0, Value.int IntKind.i64 a0_1, Value.int IntKind.i64 a0_2, Value.int IntKind.i64 a0_3, Value.int IntKind.i64 a0_4, Value.int IntKind.i64 a0_5], Value.int IntKind.i64 1048576, Value.int IntKind.i64 (1048576 - ((n0 : Nat) : Int)), Value.int IntKind.i64 (1048576 - ((n0 : Nat) : Int)), Value.bool (decide (1048576 - ((n0 : Nat) : Int) < 0)), ha 21, ha 22, ha 23, ha 24, ha 25, ha 26, ha 27, ha 28, Value.agg #[Value.slice A0 n0 c0, Value.int IntKind.i64 a0_0, Value.int IntKind.i64 a0_1, Value.int IntKind.i64 a0_2, Value.int IntKind.i64 a0_3, Value.int IntKind.i64 a0_4, Value.int IntKind.i64 a0_5], Value.agg #[Value.slice (some { block := g0_3, off := 0 }) n0 n0, Value.int IntKind.i64 a0_0, Value.int IntKind.i64 a0_1, Value.int IntKind.i64 a0_2, Value.int IntKind.i64 a0_3, Value.int IntKind.i64 a0_4, Value.int IntKind.i64 a0_5], hb 31, hb 32, hb 33, hb 34, hb 35, hb 36, hb 37, Value.agg #[Value.slice (some { block := g0_5, off := 0 }) zs0.length c0_5, Value.int IntKind.i64 r0, Value.int IntKind.i64 r1, Value.int IntKind.i64 r2, Value.int IntKind.i64 r3, Value.int IntKind.i64 r4, Value.int IntKind.i64 r5], Value.agg #[Value.slice (some { block := g0_2, off := 0 }) zs0.length c0_2, Value.int IntKind.i64 r0, Value.int IntKind.i64 r1, Value.int IntKind.i64 r2, Value.int IntKind.i64 r3, Value.int IntKind.i64 r4, Value.int IntKind.i64 r5], Value.bool true, Value.bool false, Value.bool false, Value.bool f0v, Value.bool f0v, Value.bool false, Value.bool false, hc 47, hc 48, hc 49, hc 50, Value.bool false, Value.agg #[Value.slice (some { block := g0_3, off := 0 }) n0 n0, Value.int IntKind.i64 a0_0, Value.int IntKind.i64 a0_1, Value.int IntKind.i64 a0_2, Value.int IntKind.i64 a0_3, Value.int IntKind.i64 a0_4, Value.int IntKind.i64 a0_5], Value.int IntKind.i64 1, Value.int IntKind.i64 (1 + 2 * ((n0 : Nat) : Int)), Value.int IntKind.i64 (1 + 2 * ((n0 : Nat) : Int)), Value.bool (decide (1 + 2 * ((n0 : Nat) : Int) < 0)), Value.bool (decide (1 + 2 * ((n0 : Nat) : Int) < 0)), Value.agg #[Value.slice (some { block := g0_5, off := 0 }) zs0.length c0_5, Value.int IntKind.i64 r0, Value.int IntKind.i64 r1, Value.int IntKind.i64 r2, Value.int IntKind.i64 r3, Value.int IntKind.i64 r4, Value.int IntKind.i64 r5], Value.agg #[Value.slice (some { block := g0_2, off := 0 }) zs0.length c0_2, Value.int IntKind.i64 r0, Value.int IntKind.i64 r1, Value.int IntKind.i64 r2, Value.int IntKind.i64 r3, Value.int IntKind.i64 r4, Value.int IntKind.i64 r5], Value.bool true, Value.bool false, Value.bool (decide (1 + 2 * ((n0 : Nat) : Int) < 0)), Value.bool (decide (1 + 2 * ((n0 : Nat) : Int) < 0)), Value.bool f0v, Value.bool f0v, Value.bool false, Value.bool (decide (1 + 2 * ((n0 : Nat) : Int) < 0)), Value.agg #[Value.slice (some { block := g0_5, off := 0 }) zs0.length c0_5, Value.int IntKind.i64 r0, Value.int IntKind.i64 r1, Value.int IntKind.i64 r2, Value.int IntKind.i64 r3, Value.int IntKind.i64 r4, Value.int IntKind.i64 r5], Value.int IntKind.i64 1, Value.int IntKind.i64 (1 + 2 * ((zs0.length : Nat) : Int)), Value.agg #[Value.slice (some { block := g0_5, off := 0 }) zs0.length c0_5, Value.int IntKind.i64 r0, Value.int IntKind.i64 r1, Value.int IntKind.i64 r2, Value.int IntKind.i64 r3, Value.int IntKind.i64 r4, Value.int IntKind.i64 r5], Value.int IntKind.i64 1, Value.int IntKind.i64 (1 + 2 * ((zs0.length : Nat) : Int)), Value.int IntKind.i64 (1 + 2 * ((zs0.length : Nat) : Int)), Value.bool (decide (1 + 2 * ((zs0.length : Nat) : Int) < 0)), Value.int IntKind.i64 (1 + 2 * ((zs0.length : Nat) : Int)), Value.int IntKind.i64 (1 + 2 * ((zs0.length : Nat) : Int)), Value.bool false, f 79, f 80, f 81, f 82, f 83, f 84, f 85, f 86, undef, undef, undef, undef, undef, undef, undef, undef, undef, undef, undef, undef, undef, undef, undef, undef, undef], []⟩ v1 → (JFEnterd B_11 zs0 r0 r1 r2 r3 r4 r5 f0v A0 n0 c0 z0 a0_0 a0_1 a0_2 a0_3 a0_4 a0_5 a1_0 a1_1 b_p1 b_p0 ha gs_2 g0_2 c0_2 g0_3 b_l2 hb gs_5 g0_5 c0_5 hc) j a' w') → K a' w') → wpOp _ _ _ i K ⟨#[Value.agg #[Value.slice A0 n0 c0, Value.int IntKind.i64 a0_0, Value.int IntKind.i64 a0_1, Value.int IntKind.i64 a0_2, Value.int IntKind.i64 a0_3, Value.int IntKind.i64 a0_4, Value.int IntKind.i64 a0_5], Value.agg #[Value.int IntKind.i64 a1_0, Value.int IntKind.i64 a1_1], Value.pointer (some { block := b_p0, off := 0 }), Value.pointer (some { block := b_p1, off := 0 }), Value.bool false, Value.int IntKind.i64 (1048576 - ((n0 : Nat) : Int)), Value.pointer (some { block := gs_2, off := 0 }), Value.bool f0v, Value.pointer (some { block := b_l2, off := 0 }), Value.pointer (some { block := gs_5, off := 0 }), Value.bool f0v, Value.int IntKind.i64 (1 + 2 * ((n0 : Nat) : Int)), Value.int IntKind.i64 (1 + 2 * ((zs0.length : Nat) : Int)), Value.int IntKind.i64 (1 + 2 * ((zs0.length : Nat) : Int)), f 14, f 15, Value.agg #[Value.slice A0 n0 c0, Value.int IntKind.i64 a0_0, Value.int IntKind.i64 a0_1, Value.int IntKind.i64 a0_2, Value.int IntKind.i64 a0_3, Value.int IntKind.i64 a0_4, Value.int IntKind.i64 a0_5], Value.int IntKind.i64 1048576, Value.int IntKind.i64 (1048576 - ((n0 : Nat) : Int)), Value.int IntKind.i64 (1048576 - ((n0 : Nat) : Int)), Value.bool (decide (1048576 - ((n0 : Nat) : Int) < 0)), ha 21, ha 22, ha 23, ha 24, ha 25, ha 26, ha 27, ha 28, Value.agg #[Value.slice A0 n0 c0, Value.int IntKind.i64 a0_0, Value.int IntKind.i64 a0_1, Value.int IntKind.i64 a0_2, Value.int IntKind.i64 a0_3, Value.int IntKind.i64 a0_4, Value.int IntKind.i64 a0_5], Value.agg #[Value.slice (some { block := g0_3, off := 0 }) n0 n0, Value.int IntKind.i64 a0_0, Value.int IntKind.i64 a0_1, Value.int IntKind.i64 a0_2, Value.int IntKind.i64 a0_3, Value.int IntKind.i64 a0_4, Value.int IntKind.i64 a0_5], hb 31, hb 32, hb 33, hb 34, hb 35, hb 36, hb 37, Value.agg #[Value.slice (some { block := g0_5, off := 0 }) zs0.length c0_5, Value.int IntKind.i64 r0, Value.int IntKind.i64 r1, Value.int IntKind.i64 r2, Value.int IntKind.i64 r3, Value.int IntKind.i64 r4, Value.int IntKind.i64 r5], Value.agg #[Value.slice (some { block := g0_2, off := 0 }) zs0.length c0_2, Value.int IntKind.i64 r0, Value.int IntKind.i64 r1, Value.int IntKind.i64 r2, Value.int IntKind.i64 r3, Value.int IntKind.i64 r4, Value.int IntKind.i64 r5], Value.bool true, Value.bool false, Value.bool false, Value.bool f0v, Value.bool f0v, Value.bool false, Value.bool false, hc 47, hc 48, hc 49, hc 50, Value.bool false, Value.agg #[Value.slice (some { block := g0_3, off := 0 }) n0 n0, Value.int IntKind.i64 a0_0, Value.int IntKind.i64 a0_1, Value.int IntKind.i64 a0_2, Value.int IntKind.i64 a0_3, Value.int IntKind.i64 a0_4, Value.int IntKind.i64 a0_5], Value.int IntKind.i64 1, Value.int IntKind.i64 (1 + 2 * ((n0 : Nat) : Int)), Value.int IntKind.i64 (1 + 2 * ((n0 : Nat) : Int)), Value.bool (decide (1 + 2 * ((n0 : Nat) : Int) < 0)), Value.bool (decide (1 + 2 * ((n0 : Nat) : Int) < 0)), Value.agg #[Value.slice (some { block := g0_5, off := 0 }) zs0.length c0_5, Value.int IntKind.i64 r0, Value.int IntKind.i64 r1, Value.int IntKind.i64 r2, Value.int IntKind.i64 r3, Value.int IntKind.i64 r4, Value.int IntKind.i64 r5], Value.agg #[Value.slice (some { block := g0_2, off := 0 }) zs0.length c0_2, Value.int IntKind.i64 r0, Value.int IntKind.i64 r1, Value.int IntKind.i64 r2, Value.int IntKind.i64 r3, Value.int IntKind.i64 r4, Value.int IntKind.i64 r5], Value.bool true, Value.bool false, Value.bool (decide (1 + 2 * ((n0 : Nat) : Int) < 0)), Value.bool (decide (1 + 2 * ((n0 : Nat) : Int) < 0)), Value.bool f0v, Value.bool f0v, Value.bool false, Value.bool (decide (1 + 2 * ((n0 : Nat) : Int) < 0)), Value.agg #[Value.slice (some { block := g0_5, off := 0 }) zs0.length c0_5, Value.int IntKind.i64 r0, Value.int IntKind.i64 r1, Value.int IntKind.i64 r2, Value.int IntKind.i64 r3, Value.int IntKind.i64 r4, Value.int IntKind.i64 r5], Value.int IntKind.i64 1, Value.int IntKind.i64 (1 + 2 * ((zs0.length : Nat) : Int)), Value.agg #[Value.slice (some { block := g0_5, off := 0 }) zs0.length c0_5, Value.int IntKind.i64 r0, Value.int IntKind.i64 r1, Value.int IntKind.i64 r2, Value.int IntKind.i64 r3, Value.int IntKind.i64 r4, Value.int IntKind.i64 r5], Value.int IntKind.i64 1, Value.int IntKind.i64 (1 + 2 * ((zs0.length : Nat) : Int)), Value.int IntKind.i64 (1 + 2 * ((zs0.length : Nat) : Int)), Value.bool (decide (1 + 2 * ((zs0.length : Nat) : Int) < 0)), Value.int IntKind.i64 (1 + 2 * ((zs0.length : Nat) : Int)), Value.int IntKind.i64 (1 + 2 * ((zs0.length : Nat) : Int)), Value.bool false, f 79, f 80, f 81, f 82, f 83, f 84, f 85, f 86, undef, undef, undef, undef, undef, undef, undef, undef, undef, undef, undef, undef, undef, undef, undef, undef, undef], []⟩ v1 from H _ fun _ _ h => h
    intro K hK
    rcases (by omega : i = 0 ∨ i = 1 ∨ i = 2 ∨ i = 3 ∨ i = 4 ∨ i = 5 ∨ i = 6 ∨ i = 7 ∨ i = 8 ∨ i = 9 ∨ i = 10) with rfl | rfl | rfl | rfl | rfl | rfl | rfl | rfl | rfl | rfl | rfl
    · obtain rfl := Option.some.inj ho
      refine wpOp_plain rfl rfl ?_
      unfold Oper.wp
      go_simp
      exact hK _ _ ⟨⟨⟨updf f 80 (.agg #[.slice A0 n0 c0, .int .i64 a0_0, .int .i64 a0_1, .int .i64 a0_2, .int .i64 a0_3, .int .i64 a0_4, .int .i64 a0_5]), rfl⟩, hin⟩, rfl, fun j hj hw hu hf => by
          rcases j with _ | _ | _ | _ | _ | _ | _ | _ | _ | _ | _ | j
          · exact absurd rfl hj
          · exact hf
          · first | (have h9 : _ = _ := hf; exact h9) | rfl
          · first | (have h9 : _ = _ := hf; exact h9) | rfl
          · exact hf
          · exact hf
          · exact hf
          · first | (have h9 : _ = _ := hf; exact h9) | rfl
          · exact hf
          · exact hf
          · first | (have h9 : _ = _ := hf; exact h9) | rfl
          · exact trivial⟩
    · obtain rfl := Option.some.inj ho
      have f0 := haf { on := 0, ground := .data } (by simp) rfl rfl
      have f0 : _ = _ := Option.some.inj f0
      refine wpOp_plain rfl rfl ?_
      unfold Oper.wp
      go_simp
      refine (toBook_w A0 n0 c0 z0 a0_0 a0_1 a0_2 a0_3 a0_4 a0_5 _ (by first | omega | (unfold maxLen; omega)) (R0.out.in_ ((IC.out.trans j_11).trans hin))).mono ?_
      rintro _ v2 ⟨g0_2, rfl, ho0, hg0, hb2⟩
      exact hK _ _ ⟨⟨⟨updf f 81 (.agg #[.slice (some ⟨g0_2, 0, none⟩) n0 n0, .int .i64 a0_0, .int .i64 a0_1, .int .i64 a0_2, .int .i64 a0_3, .int .i64 a0_4, .int .i64 a0_5]), rfl⟩, hin.step hb2⟩, ⟨g0_2, _, rfl, Nat.le_trans (Nat.le_trans hBl_11 hin.size) hg0, ho0⟩, fun j hj hw hu hf => by
          rcases j with _ | _ | _ | _ | _ | _ | _ | _ | _ | _ | _ | j
          · first | (have h9 : _ = _ := hf; exact h9) | rfl
          · exact absurd rfl hj
          · first | (have h9 : _ = _ := hf; exact h9) | rfl
          · first | (have h9 : _ = _ := hf; exact h9) | rfl
          · exact absurd (hw.symm.trans (show waitsT _ 6 _ _ = true by kernel_rfl)) (by decide)
          · exact absurd (hw.symm.trans (show waitsT _ 6 _ _ = true by kernel_rfl)) (by decide)
          · exact absurd (hw.symm.trans (show waitsT _ 6 _ _ = true by kernel_rfl)) (by decide)
          · first | (have h9 : _ = _ := hf; exact h9) | rfl
          · first | (obtain ⟨gs, X0, X1, X2, X3, X4, X5, X6, h0, h1, h2⟩ := hf; exact ⟨gs, X0, X1, X2, X3, X4, X5, X6, h0, h1, h2.step hb2⟩)
          · exact absurd (hw.symm.trans (show waitsT _ 6 _ _ = true by kernel_rfl)) (by decide)
          · first | (have h9 : _ = _ := hf; exact h9) | rfl
          · exact trivial⟩
    · obtain rfl := Option.some.inj ho
      refine wpOp_plain rfl rfl ?_
      unfold Oper.wp
      go_simp
      exact hK _ _ ⟨⟨⟨updf f 82 (.agg #[.int .i64 a1_0, .int .i64 a1_1]), rfl⟩, hin⟩, rfl, fun j hj hw hu hf => by
          rcases j with _ | _ | _ | _ | _ | _ | _ | _ | _ | _ | _ | j
          · first | (have h9 : _ = _ := hf; exact h9) | rfl
          · exact hf
          · exact absurd rfl hj
          · first | (have h9 : _ = _ := hf; exact h9) | rfl
          · exact hf
          · exact hf
          · exact hf
          · first | (have h9 : _ = _ := hf; exact h9) | rfl
          · exact hf
          · exact hf
          · first | (have h9 : _ = _ := hf; exact h9) | rfl
          · exact trivial⟩
    · obtain rfl := Option.some.inj ho
      have f2 := haf { on := 2, ground := .data } (by simp) rfl rfl
      have f2 : _ = _ := Option.some.inj f2
      refine wpOp_plain rfl rfl ?_
      unfold Oper.wp
      go_simp
      refine (toEvent_c a1_0 a1_1 _).mono ?_
      rintro _ v2 ⟨rfl, hb2⟩
      exact hK _ _ ⟨⟨⟨updf f 83 (.agg #[.int .i64 a1_0, .int .i64 a1_1]), rfl⟩, hin.step hb2⟩, rfl, fun j hj hw hu hf => by
          rcases j with _ | _ | _ | _ | _ | _ | _ | _ | _ | _ | _ | j
          · first | (have h9 : _ = _ := hf; exact h9) | rfl
          · first | (obtain ⟨g0, c0, h0, b0, o0⟩ := hf; exact ⟨g0, c0, h0, b0, o0.step hb2⟩)
          · first | (have h9 : _ = _ := hf; exact h9) | rfl
          · exact absurd rfl hj
          · exact absurd (hw.symm.trans (show waitsT _ 6 _ _ = true by kernel_rfl)) (by decide)
          · exact absurd (hw.symm.trans (show waitsT _ 6 _ _ = true by kernel_rfl)) (by decide)
          · exact absurd (hw.symm.trans (show waitsT _ 6 _ _ = true by kernel_rfl)) (by decide)
          · first | (have h9 : _ = _ := hf; exact h9) | rfl
          · first | (obtain ⟨gs, X0, X1, X2, X3, X4, X5, X6, h0, h1, h2⟩ := hf; exact ⟨gs, X0, X1, X2, X3, X4, X5, X6, h0, h1, h2.step hb2⟩)
          · exact absurd (hw.symm.trans (show waitsT _ 6 _ _ = true by kernel_rfl)) (by decide)
          · first | (have h9 : _ = _ := hf; exact h9) | rfl
          · exact trivial⟩
    · obtain rfl := Option.some.inj ho
      obtain ⟨g0_1, c0_1, f1, hb10, ho10⟩ := haf { on := 1, ground := .data } (by simp) rfl rfl
      have f1 : _ = _ := Option.some.inj f1
      have f3 := haf { on := 3, ground := .data } (by simp) rfl rfl
      have f3 : _ = _ := Option.some.inj f3
      refine wpOp_plain rfl rfl ?_
      unfold Oper.wp
      go_simp
      refine (HiC.out g0_1 c0_1 _ (ho10.reads)).mono ?_
      rintro _ v2 ⟨g0_2, c0_2, rfl, ho0, hg0, hb2⟩
      exact hK _ _ ⟨⟨⟨updf f 84 (.tuple #[.agg #[.slice (some ⟨g0_2, 0, none⟩) zs0.length c0_2, .int .i64 r0, .int .i64 r1, .int .i64 r2, .int .i64 r3, .int .i64 r4, .int .i64 r5], .bool f0v]), rfl⟩, hin.step hb2⟩, ⟨g0_2, c0_2, rfl, Nat.le_trans (Nat.le_trans hBl_11 hin.size) hg0, ho0⟩, fun j hj hw hu hf => by
          rcases j with _ | _ | _ | _ | _ | _ | _ | _ | _ | _ | _ | j
          · first | (have h9 : _ = _ := hf; exact h9) | rfl
          · exact absurd (hu.symm.trans (show (_ || usesB _ _ _ _) = false by kernel_rfl)) (by decide)
          · first | (have h9 : _ = _ := hf; exact h9) | rfl
          · first | (have h9 : _ = _ := hf; exact h9) | rfl
          · exact absurd rfl hj
          · exact absurd (hw.symm.trans (show waitsT _ 6 _ _ = true by kernel_rfl)) (by decide)
          · exact absurd (hw.symm.trans (show waitsT _ 6 _ _ = true by kernel_rfl)) (by decide)
          · first | (have h9 : _ = _ := hf; exact h9) | rfl
          · first | (obtain ⟨gs, X0, X1, X2, X3, X4, X5, X6, h0, h1, h2⟩ := hf; exact ⟨gs, X0, X1, X2, X3, X4, X5, X6, h0, h1, h2.step hb2⟩)
          · exact absurd (hw.symm.trans (show waitsT _ 6 _ _ = true by kernel_rfl)) (by decide)
          · first | (have h9 : _ = _ := hf; exact h9) | rfl
          · exact trivial⟩
    · obtain rfl := Option.some.inj ho
      obtain ⟨g0_4, c0_4, f4, hb40, ho40⟩ := haf { on := 4, ground := .data } (by simp) rfl rfl
      have f4 : _ = _ := Option.some.inj f4
      refine wpOp_plain rfl rfl ?_
      unfold Oper.wp
      go_simp
      exact hK _ _ ⟨⟨⟨updf f 79 (.tuple #[.agg #[.slice (some ⟨g0_4, 0, none⟩) zs0.length c0_4, .int .i64 r0, .int .i64 r1, .int .i64 r2, .int .i64 r3, .int .i64 r4, .int .i64 r5], .bool f0v]), rfl⟩, hin⟩, ⟨g0_4, c0_4, rfl, hb40, ho40⟩, fun j hj hw hu hf => by
          rcases j with _ | _ | _ | _ | _ | _ | _ | _ | _ | _ | _ | j
          · first | (have h9 : _ = _ := hf; exact h9) | rfl
          · exact hf
          · first | (have h9 : _ = _ := hf; exact h9) | rfl
          · first | (have h9 : _ = _ := hf; exact h9) | rfl
          · exact hf
          · exact absurd rfl hj
          · exact hf
          · first | (have h9 : _ = _ := hf; exact h9) | rfl
          · exact hf
          · exact hf
          · first | (have h9 : _ = _ := hf; exact h9) | rfl
          · exact trivial⟩
    · obtain rfl := Option.some.inj ho
      obtain ⟨g0_5, c0_5, f5, hb50, ho50⟩ := haf { on := 5, ground := .data } (by simp) rfl rfl
      have f5 : _ = _ := Option.some.inj f5
      refine wpOp_plain rfl rfl ?_
      unfold Oper.wp
      go_simp
      exact hK _ _ ⟨⟨⟨updf f 85 (.agg #[.slice (some ⟨g0_5, 0, none⟩) zs0.length c0_5, .int .i64 r0, .int .i64 r1, .int .i64 r2, .int .i64 r3, .int .i64 r4, .int .i64 r5]), rfl⟩, hin⟩, ⟨g0_5, c0_5, rfl, hb50, ho50⟩, fun j hj hw hu hf => by
          rcases j with _ | _ | _ | _ | _ | _ | _ | _ | _ | _ | _ | j
          · first | (have h9 : _ = _ := hf; exact h9) | rfl
          · exact hf
          · first | (have h9 : _ = _ := hf; exact h9) | rfl
          · first | (have h9 : _ = _ := hf; exact h9) | rfl
          · exact hf
          · exact hf
          · exact absurd rfl hj
          · first | (have h9 : _ = _ := hf; exact h9) | rfl
          · exact hf
          · exact hf
          · first | (have h9 : _ = _ := hf; exact h9) | rfl
          · exact trivial⟩
    · obtain rfl := Option.some.inj ho
      obtain ⟨g0_5, c0_5, f5, hb50, ho50⟩ := haf { on := 5, ground := .data } (by simp) rfl rfl
      have f5 : _ = _ := Option.some.inj f5
      refine wpOp_plain rfl rfl ?_
      unfold Oper.wp
      go_simp
      exact hK _ _ ⟨⟨⟨updf f 86 (.bool f0v), rfl⟩, hin⟩, rfl, fun j hj hw hu hf => by
          rcases j with _ | _ | _ | _ | _ | _ | _ | _ | _ | _ | _ | j
          · first | (have h9 : _ = _ := hf; exact h9) | rfl
          · exact hf
          · first | (have h9 : _ = _ := hf; exact h9) | rfl
          · first | (have h9 : _ = _ := hf; exact h9) | rfl
          · exact hf
          · exact hf
          · exact hf
          · exact absurd rfl hj
          · exact hf
          · exact hf
          · first | (have h9 : _ = _ := hf; exact h9) | rfl
          · exact trivial⟩
    · obtain rfl := Option.some.inj ho
      refine wpOp_plain rfl rfl ?_
      unfold Oper.wp
      go_simp
      exact hK _ _ ⟨⟨⟨updf f 14 (.pointer (some ⟨v1.heap.size, 0, none⟩)), rfl⟩, hin.alloc _⟩, ⟨v1.heap.size, _, _, _, _, _, _, _, Nat.le_trans hBl_11 hin.size, rfl, Blk.new v1 _ _⟩, fun j hj hw hu hf => by
          rcases j with _ | _ | _ | _ | _ | _ | _ | _ | _ | _ | _ | j
          · first | (have h9 : _ = _ := hf; exact h9) | rfl
          · first | (obtain ⟨g0, c0, h0, b0, o0⟩ := hf; exact ⟨g0, c0, h0, b0, o0.step ((Below.refl _ v1).alloc (Nat.le_refl _) _)⟩)
          · first | (have h9 : _ = _ := hf; exact h9) | rfl
          · first | (have h9 : _ = _ := hf; exact h9) | rfl
          · first | (obtain ⟨g0, c0, h0, b0, o0⟩ := hf; exact ⟨g0, c0, h0, b0, o0.step ((Below.refl _ v1).alloc (Nat.le_refl _) _)⟩)
          · first | (obtain ⟨g0, c0, h0, b0, o0⟩ := hf; exact ⟨g0, c0, h0, b0, o0.step ((Below.refl _ v1).alloc (Nat.le_refl _) _)⟩)
          · first | (obtain ⟨g0, c0, h0, b0, o0⟩ := hf; exact ⟨g0, c0, h0, b0, o0.step ((Below.refl _ v1).alloc (Nat.le_refl _) _)⟩)
          · first | (have h9 : _ = _ := hf; exact h9) | rfl
          · exact absurd rfl hj
          · exact absurd (hw.symm.trans (show waitsT _ 6 _ _ = true by kernel_rfl)) (by decide)
          · first | (have h9 : _ = _ := hf; exact h9) | rfl
          · exact trivial⟩
    · obtain rfl := Option.some.inj ho
      obtain ⟨g0_6, c0_6, f6, hb60, ho60⟩ := haf { on := 6, ground := .data } (by simp) rfl rfl
      have f6 : _ = _ := Option.some.inj f6
      obtain ⟨gs, X0, X1, X2, X3, X4, X5, X6, hgB, hsl, hbk⟩ := haf { on := 8, ground := .data } (by simp) rfl rfl
      have hsl : _ = _ := Option.some.inj hsl
      have z0 := hbk.cell 0
      have y0 := hbk.frozen 0
      have z1 := hbk.cell 1
      have y1 := hbk.frozen 1
      have z2 := hbk.cell 2
      have y2 := hbk.frozen 2
      have z3 := hbk.cell 3
      have y3 := hbk.frozen 3
      have z4 := hbk.cell 4
      have y4 := hbk.frozen 4
      have z5 := hbk.cell 5
      have y5 := hbk.frozen 5
      have z6 := hbk.cell 6
      have y6 := hbk.frozen 6
      have hgw := Nat.le_trans hBg_11 hgB
      have hb2 : Below w_11.heap.size v1 (((((((v1.setCell ⟨gs, 0, none⟩ (.slice (some ⟨g0_6, 0, none⟩) zs0.length c0_6)).setCell ⟨gs, 1, none⟩ (.int .i64 r0)).setCell ⟨gs, 2, none⟩ (.int .i64 r1)).setCell ⟨gs, 3, none⟩ (.int .i64 r2)).setCell ⟨gs, 4, none⟩ (.int .i64 r3)).setCell ⟨gs, 5, none⟩ (.int .i64 r4)).setCell ⟨gs, 6, none⟩ (.int .i64 r5)) := ((((((((Below.refl _ _).setCell hgw _).setCell hgw _).setCell hgw _).setCell hgw _).setCell hgw _).setCell hgw _).setCell hgw _)
      have hgr : v1.grownBy (((((((v1.setCell ⟨gs, 0, none⟩ (.slice (some ⟨g0_6, 0, none⟩) zs0.length c0_6)).setCell ⟨gs, 1, none⟩ (.int .i64 r0)).setCell ⟨gs, 2, none⟩ (.int .i64 r1)).setCell ⟨gs, 3, none⟩ (.int .i64 r2)).setCell ⟨gs, 4, none⟩ (.int .i64 r3)).setCell ⟨gs, 5, none⟩ (.int .i64 r4)).setCell ⟨gs, 6, none⟩ (.int .i64 r5)) (some gs) := (only_setCell (only_setCell (only_setCell (only_setCell (only_setCell (only_setCell (only_setCell (only_refl _ _) (p := ⟨gs, 0, none⟩) (.inl rfl) _) (p := ⟨gs, 1, none⟩) (.inl rfl) _) (p := ⟨gs, 2, none⟩) (.inl rfl) _) (p := ⟨gs, 3, none⟩) (.inl rfl) _) (p := ⟨gs, 4, none⟩) (.inl rfl) _) (p := ⟨gs, 5, none⟩) (.inl rfl) _) (p := ⟨gs, 6, none⟩) (.inl rfl) _)
      have HBK : Blk (((((((v1.setCell ⟨gs, 0, none⟩ (.slice (some ⟨g0_6, 0, none⟩) zs0.length c0_6)).setCell ⟨gs, 1, none⟩ (.int .i64 r0)).setCell ⟨gs, 2, none⟩ (.int .i64 r1)).setCell ⟨gs, 3, none⟩ (.int .i64 r2)).setCell ⟨gs, 4, none⟩ (.int .i64 r3)).setCell ⟨gs, 5, none⟩ (.int .i64 r4)).setCell ⟨gs, 6, none⟩ (.int .i64 r5)) gs 51 #[.slice (some ⟨g0_6, 0, none⟩) zs0.length c0_6, .int .i64 r0, .int .i64 r1, .int .i64 r2, .int .i64 r3, .int .i64 r4, .int .i64 r5] := by
        have h := (((((((hbk.set_ 0 (.slice (some ⟨g0_6, 0, none⟩) zs0.length c0_6)).set_ 1 (.int .i64 r0)).set_ 2 (.int .i64 r1)).set_ 3 (.int .i64 r2)).set_ 4 (.int .i64 r3)).set_ 5 (.int .i64 r4)).set_ 6 (.int .i64 r5))
        simpa using h
      refine wpOp_plain rfl rfl ?_
      unfold Oper.wp
      go_simp
      exact hK _ _ ⟨⟨⟨f, rfl⟩, hin.wide hb2⟩, ⟨gs, g0_6, c0_6, hgB, congrArg some hsl, HBK, hb60, ho60.far hbk (by decide) hgr⟩, fun j hj hw hu hf => by
          rcases j with _ | _ | _ | _ | _ | _ | _ | _ | _ | _ | _ | j
          · first | (have h9 : _ = _ := hf; exact h9) | rfl
          · exact absurd (hu.symm.trans (show (_ || usesB _ _ _ _) = false by kernel_rfl)) (by decide)
          · first | (have h9 : _ = _ := hf; exact h9) | rfl
          · first | (have h9 : _ = _ := hf; exact h9) | rfl
          · exact absurd (hu.symm.trans (show (_ || usesB _ _ _ _) = false by kernel_rfl)) (by decide)
          · first | (obtain ⟨g0, c0, h0, b0, o0⟩ := hf; exact ⟨g0, c0, h0, b0, o0.far hbk (by decide) hgr⟩)
          · exact absurd (hu.symm.trans (show (_ || usesB _ _ _ _) = false by kernel_rfl)) (by decide)
          · first | (have h9 : _ = _ := hf; exact h9) | rfl
          · exact absurd (hu.symm.trans (show (_ || usesB _ _ _ _) = false by kernel_rfl)) (by decide)
          · exact absurd rfl hj
          · first | (have h9 : _ = _ := hf; exact h9) | rfl
          · exact trivial⟩
    · obtain rfl := Option.some.inj ho
      have f7 := haf { on := 7, ground := .data } (by simp) rfl rfl
      have f7 : _ = _ := Option.some.inj f7
      refine wpOp_plain rfl rfl ?_
      unfold Oper.wp
      go_simp
      exact hK _ _ ⟨⟨⟨updf f 15 (.bool f0v), rfl⟩, hin⟩, rfl, fun j hj hw hu hf => by
          rcases j with _ | _ | _ | _ | _ | _ | _ | _ | _ | _ | _ | j
          · first | (have h9 : _ = _ := hf; exact h9) | rfl
          · exact hf
          · first | (have h9 : _ = _ := hf; exact h9) | rfl
          · first | (have h9 : _ = _ := hf; exact h9) | rfl
          · exact hf
          · exact hf
          · exact hf
          · first | (have h9 : _ = _ := hf; exact h9) | rfl
          · exact hf
          · exact hf
          · exact absurd rfl hj
          · exact trivial⟩
  intro a w_12 hI hF
  obtain ⟨⟨hd, rfl⟩, hn_12⟩ := hI
  have hb_12 := hn_12.below
  obtain ⟨gs_12, g0_12, c0_12, hgs_12, hs_12, kk_12, hg0_12, ho0_12⟩ := hF 9 (by decide) (by decide)
  have hs_12 : hd 14 = _ := Option.some.inj hs_12
  have he_12_15 : hd 15 = _ := Option.some.inj (hF 10 (by decide) (by decide))
  clear hF
  rw [hs_12, he_12_15]
  clear hs_12 he_12_15
  have hgg0_12 := Nat.le_trans hBg_11 hg0_12
  clear hg0_12
  have NE_X2_X4 : Hid (g0_3 ≠ g0_12) := Lib.hid (by have h1 := hgg0_12; (try simp at h1); have h2 := OCEvent.lt o_11_X2; omega)
  have NE_X3_X4 : Hid (g0_5 ≠ g0_12) := Lib.hid (by have h1 := hgg0_12; (try simp at h1); have h2 := OCEvent.lt o_11_X3; omega)
  have GX_X4 : Hid (w_2.heap.size ≤ g0_12) := Lib.hid (by have h1 := hgg0_12; (try simp at h1); have h2 := In.size j_11; omega)
  have o_12_X4 : OCEvent w_12 g0_12 zs0.length c0_12 zs0 := ho0_12
  clear ho0_12 hgg0_12
  have kb_12 : Blk w_12 (gs_12) 51 #[.slice (some ⟨g0_12, 0, none⟩) zs0.length c0_12, .int .i64 r0, .int .i64 r1, .int .i64 r2, .int .i64 r3, .int .i64 r4, .int .i64 r5] := kk_12
  clear kk_12
  have j_12 : In w_2.heap.size w_2 w_12 := In.step (by (repeat (first | exact In.refl _ | assumption | apply In.alloc | apply In.drewN | apply In.drew | (refine In.step ?_ (by assumption))))) hb_12
  have k_12_p0 : Blk w_12 (b_p0) 45 #[.slice A0 n0 c0, .int .i64 a0_0, .int .i64 a0_1, .int .i64 a0_2, .int .i64 a0_3, .int .i64 a0_4, .int .i64 a0_5] := Blk.step (by (with_reducible (repeat (first | assumption | exact Blk.new' (by simp) | apply Blk.drewN | apply Blk.drew | apply Blk.alloc | (refine Blk.far ?_ (by (try simp) <;> omega) _))))) hb_12
  have c_12_p0_0 : w_12.cell? ⟨b_p0, 0, none⟩ = some (.slice A0 n0 c0) := k_12_p0.cell 0
  have c_12_p0_1 : w_12.cell? ⟨b_p0, 1, none⟩ = some (.int .i64 a0_0) := k_12_p0.cell 1
  have c_12_p0_2 : w_12.cell? ⟨b_p0, 2, none⟩ = some (.int .i64 a0_1) := k_12_p0.cell 2
  have c_12_p0_3 : w_12.cell? ⟨b_p0, 3, none⟩ = some (.int .i64 a0_2) := k_12_p0.cell 3
  have c_12_p0_4 : w_12.cell? ⟨b_p0, 4, none⟩ = some (.int .i64 a0_3) := k_12_p0.cell 4
  have c_12_p0_5 : w_12.cell? ⟨b_p0, 5, none⟩ = some (.int .i64 a0_4) := k_12_p0.cell 5
  have c_12_p0_6 : w_12.cell? ⟨b_p0, 6, none⟩ = some (.int .i64 a0_5) := k_12_p0.cell 6
  have l_12_p0 := k_12_p0.lt
  have k_12_p1 : Blk w_12 (b_p1) 57 #[.int .i64 a1_0, .int .i64 a1_1] := Blk.step (by (with_reducible (repeat (first | assumption | exact Blk.new' (by simp) | apply Blk.drewN | apply Blk.drew | apply Blk.alloc | (refine Blk.far ?_ (by (try simp) <;> omega) _))))) hb_12
  have c_12_p1_0 : w_12.cell? ⟨b_p1, 0, none⟩ = some (.int .i64 a1_0) := k_12_p1.cell 0
  have c_12_p1_1 : w_12.cell? ⟨b_p1, 1, none⟩ = some (.int .i64 a1_1) := k_12_p1.cell 1
  have l_12_p1 := k_12_p1.lt
  have k_12_l1 : Blk w_12 (gs_2) 51 #[.slice (some ⟨g0_2, 0, none⟩) zs0.length c0_2, .int .i64 r0, .int .i64 r1, .int .i64 r2, .int .i64 r3, .int .i64 r4, .int .i64 r5] := Blk.step (by (with_reducible (repeat (first | assumption | exact Blk.new' (by simp) | apply Blk.drewN | apply Blk.drew | apply Blk.alloc | (refine Blk.far ?_ (by (try simp) <;> omega) _))))) hb_12
  have c_12_l1_0 : w_12.cell? ⟨gs_2, 0, none⟩ = some (.slice (some ⟨g0_2, 0, none⟩) zs0.length c0_2) := k_12_l1.cell 0
  have c_12_l1_1 : w_12.cell? ⟨gs_2, 1, none⟩ = some (.int .i64 r0) := k_12_l1.cell 1
  have c_12_l1_2 : w_12.cell? ⟨gs_2, 2, none⟩ = some (.int .i64 r1) := k_12_l1.cell 2
  have c_12_l1_3 : w_12.cell? ⟨gs_2, 3, none⟩ = some (.int .i64 r2) := k_12_l1.cell 3
  have c_12_l1_4 : w_12.cell? ⟨gs_2, 4, none⟩ = some (.int .i64 r3) := k_12_l1.cell 4
  have c_12_l1_5 : w_12.cell? ⟨gs_2, 5, none⟩ = some (.int .i64 r4) := k_12_l1.cell 5
  have c_12_l1_6 : w_12.cell? ⟨gs_2, 6, none⟩ = some (.int .i64 r5) := k_12_l1.cell 6
  have l_12_l1 := k_12_l1.lt
  have k_12_l2 : Blk w_12 (b_l2) 51 #[.slice (some ⟨g0_3, 0, none⟩) n0 n0, .int .i64 a0_0, .int .i64 a0_1, .int .i64 a0_2, .int .i64 a0_3, .int .i64 a0_4, .int .i64 a0_5] := Blk.step (by (with_reducible (repeat (first | assumption | exact Blk.new' (by simp) | apply Blk.drewN | apply Blk.drew | apply Blk.alloc | (refine Blk.far ?_ (by (try simp) <;> omega) _))))) hb_12
  have c_12_l2_0 : w_12.cell? ⟨b_l2, 0, none⟩ = some (.slice (some ⟨g0_3, 0, none⟩) n0 n0) := k_12_l2.cell 0
  have c_12_l2_1 : w_12.cell? ⟨b_l2, 1, none⟩ = some (.int .i64 a0_0) := k_12_l2.cell 1
  have c_12_l2_2 : w_12.cell? ⟨b_l2, 2, none⟩ = some (.int .i64 a0_1) := k_12_l2.cell 2
  have c_12_l2_3 : w_12.cell? ⟨b_l2, 3, none⟩ = some (.int .i64 a0_2) := k_12_l2.cell 3
  have c_12_l2_4 : w_12.cell? ⟨b_l2, 4, none⟩ = some (.int .i64 a0_3) := k_12_l2.cell 4
  have c_12_l2_5 : w_12.cell? ⟨b_l2, 5, none⟩ = some (.int .i64 a0_4) := k_12_l2.cell 5
  have c_12_l2_6 : w_12.cell? ⟨b_l2, 6, none⟩ = some (.int .i64 a0_5) := k_12_l2.cell 6
  have l_12_l2 := k_12_l2.lt
  have k_12_l3 : Blk w_12 (gs_5) 51 #[.slice (some ⟨g0_5, 0, none⟩) zs0.length c0_5, .int .i64 r0, .int .i64 r1, .int .i64 r2, .int .i64 r3, .int .i64 r4, .int .i64 r5] := Blk.step (by (with_reducible (repeat (first | assumption | exact Blk.new' (by simp) | apply Blk.drewN | apply Blk.drew | apply Blk.alloc | (refine Blk.far ?_ (by (try simp) <;> omega) _))))) hb_12
  have c_12_l3_0 : w_12.cell? ⟨gs_5, 0, none⟩ = some (.slice (some ⟨g0_5, 0, none⟩) zs0.length c0_5) := k_12_l3.cell 0
  have c_12_l3_1 : w_12.cell? ⟨gs_5, 1, none⟩ = some (.int .i64 r0) := k_12_l3.cell 1
  have c_12_l3_2 : w_12.cell? ⟨gs_5, 2, none⟩ = some (.int .i64 r1) := k_12_l3.cell 2
  have c_12_l3_3 : w_12.cell? ⟨gs_5, 3, none⟩ = some (.int .i64 r2) := k_12_l3.cell 3
  have c_12_l3_4 : w_12.cell? ⟨gs_5, 4, none⟩ = some (.int .i64 r3) := k_12_l3.cell 4
  have c_12_l3_5 : w_12.cell? ⟨gs_5, 5, none⟩ = some (.int .i64 r4) := k_12_l3.cell 5
  have c_12_l3_6 : w_12.cell? ⟨gs_5, 6, none⟩ = some (.int .i64 r5) := k_12_l3.cell 6
  have l_12_l3 := k_12_l3.lt
  have o_12_X2 : OCEvent w_12 g0_3 n0 n0 (marksEvent (1) n0) := OCEvent.step (by with_reducible (repeat (first | assumption | apply OCEvent.drewN | apply OCEvent.drew | apply OCEvent.alloc))) hb_12
  have o_12_X3 : OCEvent w_12 g0_5 zs0.length c0_5 (marksEvent (1) zs0.length) := OCEvent.step (by with_reducible (repeat (first | assumption | apply OCEvent.drewN | apply OCEvent.drew | apply OCEvent.alloc))) hb_12
  clear j_11 k_11_p0 c_11_p0_0 c_11_p0_1 c_11_p0_2 c_11_p0_3 c_11_p0_4 c_11_p0_5 c_11_p0_6 l_11_p0 k_11_p1 c_11_p1_0 c_11_p1_1 l_11_p1 k_11_l1 c_11_l1_0 c_11_l1_1 c_11_l1_2 c_11_l1_3 c_11_l1_4 c_11_l1_5 c_11_l1_6 l_11_l1 k_11_l2 c_11_l2_0 c_11_l2_1 c_11_l2_2 c_11_l2_3 c_11_l2_4 c_11_l2_5 c_11_l2_6 l_11_l2 k_11_l3 c_11_l3_0 c_11_l3_1 c_11_l3_2 c_11_l3_3 c_11_l3_4 c_11_l3_5 c_11_l3_6 l_11_l3 o_11_X2 o_11_X3 hb_11
  have k_12_l4 : Blk w_12 (gs_12) 51 #[.slice (some ⟨g0_12, 0, none⟩) zs0.length c0_12, .int .i64 r0, .int .i64 r1, .int .i64 r2, .int .i64 r3, .int .i64 r4, .int .i64 r5] := kb_12
  have c_12_l4_0 : w_12.cell? ⟨gs_12, 0, none⟩ = some (.slice (some ⟨g0_12, 0, none⟩) zs0.length c0_12) := k_12_l4.cell 0
  have c_12_l4_1 : w_12.cell? ⟨gs_12, 1, none⟩ = some (.int .i64 r0) := k_12_l4.cell 1
  have c_12_l4_2 : w_12.cell? ⟨gs_12, 2, none⟩ = some (.int .i64 r1) := k_12_l4.cell 2
  have c_12_l4_3 : w_12.cell? ⟨gs_12, 3, none⟩ = some (.int .i64 r2) := k_12_l4.cell 3
  have c_12_l4_4 : w_12.cell? ⟨gs_12, 4, none⟩ = some (.int .i64 r3) := k_12_l4.cell 4
  have c_12_l4_5 : w_12.cell? ⟨gs_12, 5, none⟩ = some (.int .i64 r4) := k_12_l4.cell 5
  have c_12_l4_6 : w_12.cell? ⟨gs_12, 6, none⟩ = some (.int .i64 r5) := k_12_l4.cell 6
  have l_12_l4 := k_12_l4.lt
  clear kb_12 hn_12 hgs_12
  clear hBl_11 hBg_11
  go_wp2_with fail
  refine (eqBook_w (some ⟨g0_12, 0, none⟩) (some ⟨g0_2, 0, none⟩) zs0.length c0_12 c0_2 zs0 r0 r1 r2 r3 r4 r5 _ (by first | omega | (unfold maxLen; omega)) (OCEvent.reads (by with_reducible (repeat (first | assumption | apply OCEvent.drewN | apply OCEvent.drew | apply OCEvent.alloc)))) (HW0.out.in_ (by (repeat (first | exact In.refl _ | assumption | apply In.alloc | apply In.drewN | apply In.drew | (refine In.step ?_ (by assumption))))))).mono ?_
  rintro _ w_13 ⟨rfl, hb_13⟩
  have j_13 : In w_2.heap.size w_2 w_13 := In.step (by (repeat (first | exact In.refl _ | assumption | apply In.alloc | apply In.drewN | apply In.drew | (refine In.step ?_ (by assumption))))) hb_13
  have k_13_p0 : Blk w_13 (b_p0) 45 #[.slice A0 n0 c0, .int .i64 a0_0, .int .i64 a0_1, .int .i64 a0_2, .int .i64 a0_3, .int .i64 a0_4, .int .i64 a0_5] := Blk.step (by (with_reducible (repeat (first | assumption | exact Blk.new' (by simp) | apply Blk.drewN | apply Blk.drew | apply Blk.alloc | (refine Blk.far ?_ (by (try simp) <;> omega) _))))) hb_13
  have c_13_p0_0 : w_13.cell? ⟨b_p0, 0, none⟩ = some (.slice A0 n0 c0) := k_13_p0.cell 0
  have c_13_p0_1 : w_13.cell? ⟨b_p0, 1, none⟩ = some (.int .i64 a0_0) := k_13_p0.cell 1
  have c_13_p0_2 : w_13.cell? ⟨b_p0, 2, none⟩ = some (.int .i64 a0_1) := k_13_p0.cell 2
  have c_13_p0_3 : w_13.cell? ⟨b_p0, 3, none⟩ = some (.int .i64 a0_2) := k_13_p0.cell 3
  have c_13_p0_4 : w_13.cell? ⟨b_p0, 4, none⟩ = some (.int .i64 a0_3) := k_13_p0.cell 4
  have c_13_p0_5 : w_13.cell? ⟨b_p0, 5, none⟩ = some (.int .i64 a0_4) := k_13_p0.cell 5
  have c_13_p0_6 : w_13.cell? ⟨b_p0, 6, none⟩ = some (.int .i64 a0_5) := k_13_p0.cell 6
  have l_13_p0 := k_13_p0.lt
  have k_13_p1 : Blk w_13 (b_p1) 57 #[.int .i64 a1_0, .int .i64 a1_1] := Blk.step (by (with_reducible (repeat (first | assumption | exact Blk.new' (by simp) | apply Blk.drewN | apply Blk.drew | apply Blk.alloc | (refine Blk.far ?_ (by (try simp) <;> omega) _))))) hb_13
  have c_13_p1_0 : w_13.cell? ⟨b_p1, 0, none⟩ = some (.int .i64 a1_0) := k_13_p1.cell 0
  have c_13_p1_1 : w_13.cell? ⟨b_p1, 1, none⟩ = some (.int .i64 a1_1) := k_13_p1.cell 1
  have l_13_p1 := k_13_p1.lt
  have k_13_l1 : Blk w_13 (gs_2) 51 #[.slice (some ⟨g0_2, 0, none⟩) zs0.length c0_2, .int .i64 r0, .int .i64 r1, .int .i64 r2, .int .i64 r3, .int .i64 r4, .int .i64 r5] := Blk.step (by (with_reducible (repeat (first | assumption | exact Blk.new' (by simp) | apply Blk.drewN | apply Blk.drew | apply Blk.alloc | (refine Blk.far ?_ (by (try simp) <;> omega) _))))) hb_13
  have c_13_l1_0 : w_13.cell? ⟨gs_2, 0, none⟩ = some (.slice (some ⟨g0_2, 0, none⟩) zs0.length c0_2) := k_13_l1.cell 0
  have c_13_l1_1 : w_13.cell? ⟨gs_2, 1, none⟩ = some (.int .i64 r0) := k_13_l1.cell 1
  have c_13_l1_2 : w_13.cell? ⟨gs_2, 2, none⟩ = some (.int .i64 r1) := k_13_l1.cell 2
  have c_13_l1_3 : w_13.cell? ⟨gs_2, 3, none⟩ = some (.int .i64 r2) := k_13_l1.cell 3
  have c_13_l1_4 : w_13.cell? ⟨gs_2, 4, none⟩ = some (.int .i64 r3) := k_13_l1.cell 4
  have c_13_l1_5 : w_13.cell? ⟨gs_2, 5, none⟩ = some (.int .i64 r4) := k_13_l1.cell 5
  have c_13_l1_6 : w_13.cell? ⟨gs_2, 6, none⟩ = some (.int .i64 r5) := k_13_l1.cell 6
  have l_13_l1 := k_13_l1.lt
  have k_13_l2 : Blk w_13 (b_l2) 51 #[.slice (some ⟨g0_3, 0, none⟩) n0 n0, .int .i64 a0_0, .int .i64 a0_1, .int .i64 a0_2, .int .i64 a0_3, .int .i64 a0_4, .int .i64 a0_5] := Blk.step (by (with_reducible (repeat (first | assumption | exact Blk.new' (by simp) | apply Blk.drewN | apply Blk.drew | apply Blk.alloc | (refine Blk.far ?_ (by (try simp) <;> omega) _))))) hb_13
  have c_13_l2_0 : w_13.cell? ⟨b_l2, 0, none⟩ = some (.slice (some ⟨g0_3, 0, none⟩) n0 n0) := k_13_l2.cell 0
  have c_13_l2_1 : w_13.cell? ⟨b_l2, 1, none⟩ = some (.int .i64 a0_0) := k_13_l2.cell 1
  have c_13_l2_2 : w_13.cell? ⟨b_l2, 2, none⟩ = some (.int .i64 a0_1) := k_13_l2.cell 2
  have c_13_l2_3 : w_13.cell? ⟨b_l2, 3, none⟩ = some (.int .i64 a0_2) := k_13_l2.cell 3
  have c_13_l2_4 : w_13.cell? ⟨b_l2, 4, none⟩ = some (.int .i64 a0_3) := k_13_l2.cell 4
  have c_13_l2_5 : w_13.cell? ⟨b_l2, 5, none⟩ = some (.int .i64 a0_4) := k_13_l2.cell 5
  have c_13_l2_6 : w_13.cell? ⟨b_l2, 6, none⟩ = some (.int .i64 a0_5) := k_13_l2.cell 6
  have l_13_l2 := k_13_l2.lt
  have k_13_l3 : Blk w_13 (gs_5) 51 #[.slice (some ⟨g0_5, 0, none⟩) zs0.length c0_5, .int .i64 r0, .int .i64 r1, .int .i64 r2, .int .i64 r3, .int .i64 r4, .int .i64 r5] := Blk.step (by (with_reducible (repeat (first | assumption | exact Blk.new' (by simp) | apply Blk.drewN | apply Blk.drew | apply Blk.alloc | (refine Blk.far ?_ (by (try simp) <;> omega) _))))) hb_13
  have c_13_l3_0 : w_13.cell? ⟨gs_5, 0, none⟩ = some (.slice (some ⟨g0_5, 0, none⟩) zs0.length c0_5) := k_13_l3.cell 0
  have c_13_l3_1 : w_13.cell? ⟨gs_5, 1, none⟩ = some (.int .i64 r0) := k_13_l3.cell 1
  have c_13_l3_2 : w_13.cell? ⟨gs_5, 2, none⟩ = some (.int .i64 r1) := k_13_l3.cell 2
  have c_13_l3_3 : w_13.cell? ⟨gs_5, 3, none⟩ = some (.int .i64 r2) := k_13_l3.cell 3
  have c_13_l3_4 : w_13.cell? ⟨gs_5, 4, none⟩ = some (.int .i64 r3) := k_13_l3.cell 4
  have c_13_l3_5 : w_13.cell? ⟨gs_5, 5, none⟩ = some (.int .i64 r4) := k_13_l3.cell 5
  have c_13_l3_6 : w_13.cell? ⟨gs_5, 6, none⟩ = some (.int .i64 r5) := k_13_l3.cell 6
  have l_13_l3 := k_13_l3.lt
  have k_13_l4 : Blk w_13 (gs_12) 51 #[.slice (some ⟨g0_12, 0, none⟩) zs0.length c0_12, .int .i64 r0, .int .i64 r1, .int .i64 r2, .int .i64 r3, .int .i64 r4, .int .i64 r5] := Blk.step (by (with_reducible (repeat (first | assumption | exact Blk.new' (by simp) | apply Blk.drewN | apply Blk.drew | apply Blk.alloc | (refine Blk.far ?_ (by (try simp) <;> omega) _))))) hb_13
  have c_13_l4_0 : w_13.cell? ⟨gs_12, 0, none⟩ = some (.slice (some ⟨g0_12, 0, none⟩) zs0.length c0_12) := k_13_l4.cell 0
  have c_13_l4_1 : w_13.cell? ⟨gs_12, 1, none⟩ = some (.int .i64 r0) := k_13_l4.cell 1
  have c_13_l4_2 : w_13.cell? ⟨gs_12, 2, none⟩ = some (.int .i64 r1) := k_13_l4.cell 2
  have c_13_l4_3 : w_13.cell? ⟨gs_12, 3, none⟩ = some (.int .i64 r2) := k_13_l4.cell 3
  have c_13_l4_4 : w_13.cell? ⟨gs_12, 4, none⟩ = some (.int .i64 r3) := k_13_l4.cell 4
  have c_13_l4_5 : w_13.cell? ⟨gs_12, 5, none⟩ = some (.int .i64 r4) := k_13_l4.cell 5
  have c_13_l4_6 : w_13.cell? ⟨gs_12, 6, none⟩ = some (.int .i64 r5) := k_13_l4.cell 6
  have l_13_l4 := k_13_l4.lt
  have o_13_X2 : OCEvent w_13 g0_3 n0 n0 (marksEvent (1) n0) := OCEvent.step (by with_reducible (repeat (first | assumption | apply OCEvent.drewN | apply OCEvent.drew | apply OCEvent.alloc))) hb_13
  have o_13_X3 : OCEvent w_13 g0_5 zs0.length c0_5 (marksEvent (1) zs0.length) := OCEvent.step (by with_reducible (repeat (first | assumption | apply OCEvent.drewN | apply OCEvent.drew | apply OCEvent.alloc))) hb_13
  have o_13_X4 : OCEvent w_13 g0_12 zs0.length c0_12 zs0 := OCEvent.step (by with_reducible (repeat (first | assumption | apply OCEvent.drewN | apply OCEvent.drew | apply OCEvent.alloc))) hb_13
  clear j_12 k_12_p0 c_12_p0_0 c_12_p0_1 c_12_p0_2 c_12_p0_3 c_12_p0_4 c_12_p0_5 c_12_p0_6 l_12_p0 k_12_p1 c_12_p1_0 c_12_p1_1 l_12_p1 k_12_l1 c_12_l1_0 c_12_l1_1 c_12_l1_2 c_12_l1_3 c_12_l1_4 c_12_l1_5 c_12_l1_6 l_12_l1 k_12_l2 c_12_l2_0 c_12_l2_1 c_12_l2_2 c_12_l2_3 c_12_l2_4 c_12_l2_5 c_12_l2_6 l_12_l2 k_12_l3 c_12_l3_0 c_12_l3_1 c_12_l3_2 c_12_l3_3 c_12_l3_4 c_12_l3_5 c_12_l3_6 l_12_l3 o_12_X2 o_12_X3 o_12_X4 hb_12 k_12_l4 c_12_l4_0 c_12_l4_1 c_12_l4_2 c_12_l4_3 c_12_l4_4 c_12_l4_5 c_12_l4_6 l_12_l4
  go_wp2_with fail
  refine (heldBook_w (some ⟨g0_5, 0, none⟩) zs0.length c0_5 r0 r1 r2 r3 r4 r5 (1) _ (by omega) (by omega) (OCEvent.reads (by with_reducible (repeat (first | assumption | apply OCEvent.drewN | apply OCEvent.drew | apply OCEvent.alloc))))).mono ?_
  rintro _ w_14 ⟨rfl, hb_14⟩
  have j_14 : In w_2.heap.size w_2 w_14 := In.step (by (repeat (first | exact In.refl _ | assumption | apply In.alloc | apply In.drewN | apply In.drew | (refine In.step ?_ (by assumption))))) hb_14
  have k_14_p0 : Blk w_14 (b_p0) 45 #[.slice A0 n0 c0, .int .i64 a0_0, .int .i64 a0_1, .int .i64 a0_2, .int .i64 a0_3, .int .i64 a0_4, .int .i64 a0_5] := Blk.step (by (with_reducible (repeat (first | assumption | exact Blk.new' (by simp) | apply Blk.drewN | apply Blk.drew | apply Blk.alloc | (refine Blk.far ?_ (by (try simp) <;> omega) _))))) hb_14
  have c_14_p0_0 : w_14.cell? ⟨b_p0, 0, none⟩ = some (.slice A0 n0 c0) := k_14_p0.cell 0
  have c_14_p0_1 : w_14.cell? ⟨b_p0, 1, none⟩ = some (.int .i64 a0_0) := k_14_p0.cell 1
  have c_14_p0_2 : w_14.cell? ⟨b_p0, 2, none⟩ = some (.int .i64 a0_1) := k_14_p0.cell 2
  have c_14_p0_3 : w_14.cell? ⟨b_p0, 3, none⟩ = some (.int .i64 a0_2) := k_14_p0.cell 3
  have c_14_p0_4 : w_14.cell? ⟨b_p0, 4, none⟩ = some (.int .i64 a0_3) := k_14_p0.cell 4
  have c_14_p0_5 : w_14.cell? ⟨b_p0, 5, none⟩ = some (.int .i64 a0_4) := k_14_p0.cell 5
  have c_14_p0_6 : w_14.cell? ⟨b_p0, 6, none⟩ = some (.int .i64 a0_5) := k_14_p0.cell 6
  have l_14_p0 := k_14_p0.lt
  have k_14_p1 : Blk w_14 (b_p1) 57 #[.int .i64 a1_0, .int .i64 a1_1] := Blk.step (by (with_reducible (repeat (first | assumption | exact Blk.new' (by simp) | apply Blk.drewN | apply Blk.drew | apply Blk.alloc | (refine Blk.far ?_ (by (try simp) <;> omega) _))))) hb_14
  have c_14_p1_0 : w_14.cell? ⟨b_p1, 0, none⟩ = some (.int .i64 a1_0) := k_14_p1.cell 0
  have c_14_p1_1 : w_14.cell? ⟨b_p1, 1, none⟩ = some (.int .i64 a1_1) := k_14_p1.cell 1
  have l_14_p1 := k_14_p1.lt
  have k_14_l1 : Blk w_14 (gs_2) 51 #[.slice (some ⟨g0_2, 0, none⟩) zs0.length c0_2, .int .i64 r0, .int .i64 r1, .int .i64 r2, .int .i64 r3, .int .i64 r4, .int .i64 r5] := Blk.step (by (with_reducible (repeat (first | assumption | exact Blk.new' (by simp) | apply Blk.drewN | apply Blk.drew | apply Blk.alloc | (refine Blk.far ?_ (by (try simp) <;> omega) _))))) hb_14
  have c_14_l1_0 : w_14.cell? ⟨gs_2, 0, none⟩ = some (.slice (some ⟨g0_2, 0, none⟩) zs0.length c0_2) := k_14_l1.cell 0
  have c_14_l1_1 : w_14.cell? ⟨gs_2, 1, none⟩ = some (.int .i64 r0) := k_14_l1.cell 1
  have c_14_l1_2 : w_14.cell? ⟨gs_2, 2, none⟩ = some (.int .i64 r1) := k_14_l1.cell 2
  have c_14_l1_3 : w_14.cell? ⟨gs_2, 3, none⟩ = some (.int .i64 r2) := k_14_l1.cell 3
  have c_14_l1_4 : w_14.cell? ⟨gs_2, 4, none⟩ = some (.int .i64 r3) := k_14_l1.cell 4
  have c_14_l1_5 : w_14.cell? ⟨gs_2, 5, none⟩ = some (.int .i64 r4) := k_14_l1.cell 5
  have c_14_l1_6 : w_14.cell? ⟨gs_2, 6, none⟩ = some (.int .i64 r5) := k_14_l1.cell 6
  have l_14_l1 := k_14_l1.lt
  have k_14_l2 : Blk w_14 (b_l2) 51 #[.slice (some ⟨g0_3, 0, none⟩) n0 n0, .int .i64 a0_0, .int .i64 a0_1, .int .i64 a0_2, .int .i64 a0_3, .int .i64 a0_4, .int .i64 a0_5] := Blk.step (by (with_reducible (repeat (first | assumption | exact Blk.new' (by simp) | apply Blk.drewN | apply Blk.drew | apply Blk.alloc | (refine Blk.far ?_ (by (try simp) <;> omega) _))))) hb_14
  have c_14_l2_0 : w_14.cell? ⟨b_l2, 0, none⟩ = some (.slice (some ⟨g0_3, 0, none⟩) n0 n0) := k_14_l2.cell 0
  have c_14_l2_1 : w_14.cell? ⟨b_l2, 1, none⟩ = some (.int .i64 a0_0) := k_14_l2.cell 1
  have c_14_l2_2 : w_14.cell? ⟨b_l2, 2, none⟩ = some (.int .i64 a0_1) := k_14_l2.cell 2
  have c_14_l2_3 : w_14.cell? ⟨b_l2, 3, none⟩ = some (.int .i64 a0_2) := k_14_l2.cell 3
  have c_14_l2_4 : w_14.cell? ⟨b_l2, 4, none⟩ = some (.int .i64 a0_3) := k_14_l2.cell 4
  have c_14_l2_5 : w_14.cell? ⟨b_l2, 5, none⟩ = some (.int .i64 a0_4) := k_14_l2.cell 5
  have c_14_l2_6 : w_14.cell? ⟨b_l2, 6, none⟩ = some (.int .i64 a0_5) := k_14_l2.cell 6
  have l_14_l2 := k_14_l2.lt
  have k_14_l3 : Blk w_14 (gs_5) 51 #[.slice (some ⟨g0_5, 0, none⟩) zs0.length c0_5, .int .i64 r0, .int .i64 r1, .int .i64 r2, .int .i64 r3, .int .i64 r4, .int .i64 r5] := Blk.step (by (with_reducible (repeat (first | assumption | exact Blk.new' (by simp) | apply Blk.drewN | apply Blk.drew | apply Blk.alloc | (refine Blk.far ?_ (by (try simp) <;> omega) _))))) hb_14
  have c_14_l3_0 : w_14.cell? ⟨gs_5, 0, none⟩ = some (.slice (some ⟨g0_5, 0, none⟩) zs0.length c0_5) := k_14_l3.cell 0
  have c_14_l3_1 : w_14.cell? ⟨gs_5, 1, none⟩ = some (.int .i64 r0) := k_14_l3.cell 1
  have c_14_l3_2 : w_14.cell? ⟨gs_5, 2, none⟩ = some (.int .i64 r1) := k_14_l3.cell 2
  have c_14_l3_3 : w_14.cell? ⟨gs_5, 3, none⟩ = some (.int .i64 r2) := k_14_l3.cell 3
  have c_14_l3_4 : w_14.cell? ⟨gs_5, 4, none⟩ = some (.int .i64 r3) := k_14_l3.cell 4
  have c_14_l3_5 : w_14.cell? ⟨gs_5, 5, none⟩ = some (.int .i64 r4) := k_14_l3.cell 5
  have c_14_l3_6 : w_14.cell? ⟨gs_5, 6, none⟩ = some (.int .i64 r5) := k_14_l3.cell 6
  have l_14_l3 := k_14_l3.lt
  have k_14_l4 : Blk w_14 (gs_12) 51 #[.slice (some ⟨g0_12, 0, none⟩) zs0.length c0_12, .int .i64 r0, .int .i64 r1, .int .i64 r2, .int .i64 r3, .int .i64 r4, .int .i64 r5] := Blk.step (by (with_reducible (repeat (first | assumption | exact Blk.new' (by simp) | apply Blk.drewN | apply Blk.drew | apply Blk.alloc | (refine Blk.far ?_ (by (try simp) <;> omega) _))))) hb_14
  have c_14_l4_0 : w_14.cell? ⟨gs_12, 0, none⟩ = some (.slice (some ⟨g0_12, 0, none⟩) zs0.length c0_12) := k_14_l4.cell 0
  have c_14_l4_1 : w_14.cell? ⟨gs_12, 1, none⟩ = some (.int .i64 r0) := k_14_l4.cell 1
  have c_14_l4_2 : w_14.cell? ⟨gs_12, 2, none⟩ = some (.int .i64 r1) := k_14_l4.cell 2
  have c_14_l4_3 : w_14.cell? ⟨gs_12, 3, none⟩ = some (.int .i64 r2) := k_14_l4.cell 3
  have c_14_l4_4 : w_14.cell? ⟨gs_12, 4, none⟩ = some (.int .i64 r3) := k_14_l4.cell 4
  have c_14_l4_5 : w_14.cell? ⟨gs_12, 5, none⟩ = some (.int .i64 r4) := k_14_l4.cell 5
  have c_14_l4_6 : w_14.cell? ⟨gs_12, 6, none⟩ = some (.int .i64 r5) := k_14_l4.cell 6
  have l_14_l4 := k_14_l4.lt
  have o_14_X2 : OCEvent w_14 g0_3 n0 n0 (marksEvent (1) n0) := OCEvent.step (by with_reducible (repeat (first | assumption | apply OCEvent.drewN | apply OCEvent.drew | apply OCEvent.alloc))) hb_14
  have o_14_X3 : OCEvent w_14 g0_5 zs0.length c0_5 (marksEvent (1) zs0.length) := OCEvent.step (by with_reducible (repeat (first | assumption | apply OCEvent.drewN | apply OCEvent.drew | apply OCEvent.alloc))) hb_14
  have o_14_X4 : OCEvent w_14 g0_12 zs0.length c0_12 zs0 := OCEvent.step (by with_reducible (repeat (first | assumption | apply OCEvent.drewN | apply OCEvent.drew | apply OCEvent.alloc))) hb_14
  clear j_13 k_13_p0 c_13_p0_0 c_13_p0_1 c_13_p0_2 c_13_p0_3 c_13_p0_4 c_13_p0_5 c_13_p0_6 l_13_p0 k_13_p1 c_13_p1_0 c_13_p1_1 l_13_p1 k_13_l1 c_13_l1_0 c_13_l1_1 c_13_l1_2 c_13_l1_3 c_13_l1_4 c_13_l1_5 c_13_l1_6 l_13_l1 k_13_l2 c_13_l2_0 c_13_l2_1 c_13_l2_2 c_13_l2_3 c_13_l2_4 c_13_l2_5 c_13_l2_6 l_13_l2 k_13_l3 c_13_l3_0 c_13_l3_1 c_13_l3_2 c_13_l3_3 c_13_l3_4 c_13_l3_5 c_13_l3_6 l_13_l3 k_13_l4 c_13_l4_0 c_13_l4_1 c_13_l4_2 c_13_l4_3 c_13_l4_4 c_13_l4_5 c_13_l4_6 l_13_l4 o_13_X2 o_13_X3 o_13_X4 hb_13
  go_wp2
  go_ret
  exact (show Val _ _ _ _ from Val.mk' rfl (IC.out.trans (by (repeat (first | exact In.refl _ | assumption | apply In.alloc | apply In.drewN | apply In.drew | (refine In.step ?_ (by assumption)))))))
end Go.Proofs.Ytmlemplkbkgjfaa
