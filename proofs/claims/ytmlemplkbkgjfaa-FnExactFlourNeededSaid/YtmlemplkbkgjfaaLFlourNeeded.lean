/- The law of FlourNeeded. -/
import Derived.Test.YtmlemplkbkgjfaaD38
import Derived.Test.YtmlemplkbkgjfaaVBakery
import Derived.Test.YtmlemplkbkgjfaaOpBakery
import Derived.Test.YtmlemplkbkgjfaaInv2
import Derived.Test.YtmlemplkbkgjfaaOwnC
namespace Go.Proofs.Ytmlemplkbkgjfaa
open Go.ChangeShapes Go.WideShapes Go.ChangeAt Go.RowKit
set_option linter.unusedVariables false
set_option linter.unusedSimpArgs false
def JIFlourNeededa (w0 : World) (A0x : Option Addr) (n0x : Nat) (c0x : Nat) (z0x : List Int) (a0_0 : Int) (a0_1 : Int) (a0_2 : Int) (a0_3 : Int) (a0_4 : Int) (A0y : Option Addr) (n0y : Nat) (c0y : Nat) (z0y : List EventR) (a0_5 : Int) (a0_6 : Int) (a0_7 : Int) (a0_8 : Int) (a0_9 : Int) (a0_10 : Int) (a0_11 : Int) (a1 : Int) (b_p0 : Nat) (g0_2 : Nat) (g1_2 : Nat) (g0_4 : Nat) (g1_4 : Nat) (b_l1 : Nat) (a : Act) (w : World) : Prop := (∃ f : Nat → Value, a = ⟨#[Value.agg #[Value.slice A0x n0x c0x, Value.int IntKind.i64 a0_0, Value.int IntKind.i64 a0_1, Value.int IntKind.i64 a0_2, Value.int IntKind.i64 a0_3, Value.int IntKind.i64 a0_4, Value.slice A0y n0y c0y, Value.int IntKind.i64 a0_5, Value.int IntKind.i64 a0_6, Value.int IntKind.i64 a0_7, Value.int IntKind.i64 a0_8, Value.int IntKind.i64 a0_9, Value.int IntKind.i64 a0_10, Value.int IntKind.i64 a0_11], Value.int IntKind.i64 a1, Value.pointer (some { block := b_p0, off := 0 }), undef, Value.bool false, Value.int IntKind.i64 (1048576 - ((n0x : Nat) : Int) - ((n0y : Nat) : Int)), Value.int IntKind.i64 (fnV n0x z0x n0y z0y a0_0 a0_1 a0_2 a0_3 a0_4 a0_5 a0_6 a0_7 a0_8 a0_9 a0_10 a0_11 a1), Value.pointer (some { block := b_l1, off := 0 }), Value.int IntKind.i64 (fnV n0x z0x n0y z0y a0_0 a0_1 a0_2 a0_3 a0_4 a0_5 a0_6 a0_7 a0_8 a0_9 a0_10 a0_11 a1), Value.agg #[Value.slice A0x n0x c0x, Value.int IntKind.i64 a0_0, Value.int IntKind.i64 a0_1, Value.int IntKind.i64 a0_2, Value.int IntKind.i64 a0_3, Value.int IntKind.i64 a0_4, Value.slice A0y n0y c0y, Value.int IntKind.i64 a0_5, Value.int IntKind.i64 a0_6, Value.int IntKind.i64 a0_7, Value.int IntKind.i64 a0_8, Value.int IntKind.i64 a0_9, Value.int IntKind.i64 a0_10, Value.int IntKind.i64 a0_11], Value.int IntKind.i64 1048576, Value.int IntKind.i64 (1048576 - ((n0x : Nat) : Int) - ((n0y : Nat) : Int)), Value.int IntKind.i64 (1048576 - ((n0x : Nat) : Int) - ((n0y : Nat) : Int)), Value.bool (decide (1048576 - ((n0x : Nat) : Int) - ((n0y : Nat) : Int) < 0)), Value.agg #[Value.slice A0x n0x c0x, Value.int IntKind.i64 a0_0, Value.int IntKind.i64 a0_1, Value.int IntKind.i64 a0_2, Value.int IntKind.i64 a0_3, Value.int IntKind.i64 a0_4, Value.slice A0y n0y c0y, Value.int IntKind.i64 a0_5, Value.int IntKind.i64 a0_6, Value.int IntKind.i64 a0_7, Value.int IntKind.i64 a0_8, Value.int IntKind.i64 a0_9, Value.int IntKind.i64 a0_10, Value.int IntKind.i64 a0_11], Value.agg #[Value.slice (some { block := g0_2, off := 0 }) n0x n0x, Value.int IntKind.i64 a0_0, Value.int IntKind.i64 a0_1, Value.int IntKind.i64 a0_2, Value.int IntKind.i64 a0_3, Value.int IntKind.i64 a0_4, Value.slice (some { block := g1_2, off := 0 }) n0y n0y, Value.int IntKind.i64 a0_5, Value.int IntKind.i64 a0_6, Value.int IntKind.i64 a0_7, Value.int IntKind.i64 a0_8, Value.int IntKind.i64 a0_9, Value.int IntKind.i64 a0_10, Value.int IntKind.i64 a0_11], Value.int IntKind.i64 a1, Value.int IntKind.i64 (fnV n0x z0x n0y z0y a0_0 a0_1 a0_2 a0_3 a0_4 a0_5 a0_6 a0_7 a0_8 a0_9 a0_10 a0_11 a1), Value.agg #[Value.slice A0x n0x c0x, Value.int IntKind.i64 a0_0, Value.int IntKind.i64 a0_1, Value.int IntKind.i64 a0_2, Value.int IntKind.i64 a0_3, Value.int IntKind.i64 a0_4, Value.slice A0y n0y c0y, Value.int IntKind.i64 a0_5, Value.int IntKind.i64 a0_6, Value.int IntKind.i64 a0_7, Value.int IntKind.i64 a0_8, Value.int IntKind.i64 a0_9, Value.int IntKind.i64 a0_10, Value.int IntKind.i64 a0_11], Value.agg #[Value.slice (some { block := g0_4, off := 0 }) n0x n0x, Value.int IntKind.i64 a0_0, Value.int IntKind.i64 a0_1, Value.int IntKind.i64 a0_2, Value.int IntKind.i64 a0_3, Value.int IntKind.i64 a0_4, Value.slice (some { block := g1_4, off := 0 }) n0y n0y, Value.int IntKind.i64 a0_5, Value.int IntKind.i64 a0_6, Value.int IntKind.i64 a0_7, Value.int IntKind.i64 a0_8, Value.int IntKind.i64 a0_9, Value.int IntKind.i64 a0_10, Value.int IntKind.i64 a0_11], Value.agg #[Value.slice (some { block := g0_4, off := 0 }) n0x n0x, Value.int IntKind.i64 a0_0, Value.int IntKind.i64 a0_1, Value.int IntKind.i64 a0_2, Value.int IntKind.i64 a0_3, Value.int IntKind.i64 a0_4, Value.slice (some { block := g1_4, off := 0 }) n0y n0y, Value.int IntKind.i64 a0_5, Value.int IntKind.i64 a0_6, Value.int IntKind.i64 a0_7, Value.int IntKind.i64 a0_8, Value.int IntKind.i64 a0_9, Value.int IntKind.i64 a0_10, Value.int IntKind.i64 a0_11], Value.int IntKind.i64 a1, Value.int IntKind.i64 (fnV n0x z0x n0y z0y a0_0 a0_1 a0_2 a0_3 a0_4 a0_5 a0_6 a0_7 a0_8 a0_9 a0_10 a0_11 a1), Value.int IntKind.i64 (fnV n0x z0x n0y z0y a0_0 a0_1 a0_2 a0_3 a0_4 a0_5 a0_6 a0_7 a0_8 a0_9 a0_10 a0_11 a1), Value.int IntKind.i64 (fnV n0x z0x n0y z0y a0_0 a0_1 a0_2 a0_3 a0_4 a0_5 a0_6 a0_7 a0_8 a0_9 a0_10 a0_11 a1), Value.bool false, f 26, f 27, f 28, f 29, f 30], []⟩) ∧ In w0.heap.size w0 w
def JFFlourNeededa (B : Nat) (A0x : Option Addr) (n0x : Nat) (c0x : Nat) (z0x : List Int) (a0_0 : Int) (a0_1 : Int) (a0_2 : Int) (a0_3 : Int) (a0_4 : Int) (A0y : Option Addr) (n0y : Nat) (c0y : Nat) (z0y : List EventR) (a0_5 : Int) (a0_6 : Int) (a0_7 : Int) (a0_8 : Int) (a0_9 : Int) (a0_10 : Int) (a0_11 : Int) (a1 : Int) (b_p0 : Nat) (g0_2 : Nat) (g1_2 : Nat) (g0_4 : Nat) (g1_4 : Nat) (b_l1 : Nat) : Nat → Act → World → Prop
  | 0, a, w => a.tmps[26]? = some (.agg #[.slice (some ⟨g0_4, 0, none⟩) n0x n0x, .int .i64 a0_0, .int .i64 a0_1, .int .i64 a0_2, .int .i64 a0_3, .int .i64 a0_4, .slice (some ⟨g1_4, 0, none⟩) n0y n0y, .int .i64 a0_5, .int .i64 a0_6, .int .i64 a0_7, .int .i64 a0_8, .int .i64 a0_9, .int .i64 a0_10, .int .i64 a0_11])
  | 1, a, w => a.tmps[27]? = some (.agg #[.slice A0x n0x c0x, .int .i64 a0_0, .int .i64 a0_1, .int .i64 a0_2, .int .i64 a0_3, .int .i64 a0_4, .slice A0y n0y c0y, .int .i64 a0_5, .int .i64 a0_6, .int .i64 a0_7, .int .i64 a0_8, .int .i64 a0_9, .int .i64 a0_10, .int .i64 a0_11])
  | 2, a, w => ∃ (g0 c0 g1 c1 : Nat), a.tmps[28]? = some (.agg #[.slice (some ⟨g0, 0, none⟩) n0x c0, .int .i64 a0_0, .int .i64 a0_1, .int .i64 a0_2, .int .i64 a0_3, .int .i64 a0_4, .slice (some ⟨g1, 0, none⟩) n0y c1, .int .i64 a0_5, .int .i64 a0_6, .int .i64 a0_7, .int .i64 a0_8, .int .i64 a0_9, .int .i64 a0_10, .int .i64 a0_11]) ∧ B ≤ g0 ∧ OwnC w g0 n0x c0 z0x ∧ B ≤ g1 ∧ OCEvent w g1 n0y c1 z0y
  | 3, a, w => a.tmps[29]? = some (.bool true)
  | 4, a, w => a.tmps[30]? = some (.bool false)
  | _, _, _ => True
set_option maxHeartbeats 4000000 in
theorem walk_FnExactFlourNeeded (A0x : Option Addr) (n0x c0x : Nat) (z0x : List Int) (a0_0 : Int) (ua0_0 : (Lit.int .i64 a0_0).wf = true) (a0_1 : Int) (ua0_1 : (Lit.int .i64 a0_1).wf = true) (a0_2 : Int) (ua0_2 : (Lit.int .i64 a0_2).wf = true) (a0_3 : Int) (ua0_3 : (Lit.int .i64 a0_3).wf = true) (a0_4 : Int) (ua0_4 : (Lit.int .i64 a0_4).wf = true) (A0y : Option Addr) (n0y c0y : Nat) (z0y : List EventR) (a0_5 : Int) (ua0_5 : (Lit.int .i64 a0_5).wf = true) (a0_6 : Int) (ua0_6 : (Lit.int .i64 a0_6).wf = true) (a0_7 : Int) (ua0_7 : (Lit.int .i64 a0_7).wf = true) (a0_8 : Int) (ua0_8 : (Lit.int .i64 a0_8).wf = true) (a0_9 : Int) (ua0_9 : (Lit.int .i64 a0_9).wf = true) (a0_10 : Int) (ua0_10 : (Lit.int .i64 a0_10).wf = true) (a0_11 : Int) (ua0_11 : (Lit.int .i64 a0_11).wf = true) (a1 : Int) (u1 : (Lit.int .i64 a1).wf = true) (w : World) (m0x : n0x ≤ maxLen) (w0x : ReadsI w A0x n0x z0x) (m0y : n0y ≤ maxLen) (w0y : ReadsEvent w A0y n0y z0y) :
    Calls Try.prog 10 #[.agg #[.slice A0x n0x c0x, .int .i64 a0_0, .int .i64 a0_1, .int .i64 a0_2, .int .i64 a0_3, .int .i64 a0_4, .slice A0y n0y c0y, .int .i64 a0_5, .int .i64 a0_6, .int .i64 a0_7, .int .i64 a0_8, .int .i64 a0_9, .int .i64 a0_10, .int .i64 a0_11], .int .i64 a1] w fun e w' => e = .returned (.bool true) ∧ Below w.heap.size w w' := by
  clear ua0_0 ua0_1 ua0_2 ua0_3 ua0_4 ua0_5 ua0_6 ua0_7 ua0_8 ua0_9 ua0_10 ua0_11 u1
  have R0x := Lib.hid w0x
  have L0x := w0x.1
  clear w0x
  have R0y := Lib.hid w0y
  have L0y := w0y.1
  clear w0y
  have HLL0x := Lib.hid L0x
  clear L0x
  have HLL0y := Lib.hid L0y
  clear L0y
  by_cases g0 : (1048576 : Int) < (n0x : Int) + (n0y : Int)
  · go_enter Try.func10, Try.ntmps10
    go_wp2_with fail
    refine (szBakery_w A0x n0x c0x A0y n0y c0y a0_0 a0_1 a0_2 a0_3 a0_4 a0_5 a0_6 a0_7 a0_8 a0_9 a0_10 a0_11 (1048576) _ m0x m0y (by omega) (by omega)).mono ?_
    rintro _ w_1 ⟨rfl, hb_1⟩
    rw [if_pos (by omega)]
    have i_1 : In w.heap.size w w_1 := In.step (by (repeat (first | exact In.refl _ | assumption | apply In.alloc | apply In.drewN | apply In.drew | (refine In.step ?_ (by assumption))))) hb_1
    go_wp2
    go_ret
    exact (show Val _ _ _ _ from Val.mk' rfl (by (repeat (first | exact In.refl _ | assumption | apply In.alloc | apply In.drewN | apply In.drew | (refine In.step ?_ (by assumption))))))
  have g0' : (n0x : Int) + (n0y : Int) ≤ (1048576 : Int) := by omega
  clear g0
  have hm0x : n0x ≤ 1048576 := by omega
  have hm0y : n0y ≤ 1048576 := by omega
  obtain ⟨b_p0, hbx_p0⟩ : ∃ b, b = w.heap.size := ⟨_, rfl⟩
  have kk_p0 : Blk (w.alloc (.cells #[.slice A0x n0x c0x, .int .i64 a0_0, .int .i64 a0_1, .int .i64 a0_2, .int .i64 a0_3, .int .i64 a0_4, .slice A0y n0y c0y, .int .i64 a0_5, .int .i64 a0_6, .int .i64 a0_7, .int .i64 a0_8, .int .i64 a0_9, .int .i64 a0_10, .int .i64 a0_11] 70)) b_p0 70 #[.slice A0x n0x c0x, .int .i64 a0_0, .int .i64 a0_1, .int .i64 a0_2, .int .i64 a0_3, .int .i64 a0_4, .slice A0y n0y c0y, .int .i64 a0_5, .int .i64 a0_6, .int .i64 a0_7, .int .i64 a0_8, .int .i64 a0_9, .int .i64 a0_10, .int .i64 a0_11] := (Blk.new' (w := w) (t := 70) (cs := #[.slice A0x n0x c0x, .int .i64 a0_0, .int .i64 a0_1, .int .i64 a0_2, .int .i64 a0_3, .int .i64 a0_4, .slice A0y n0y c0y, .int .i64 a0_5, .int .i64 a0_6, .int .i64 a0_7, .int .i64 a0_8, .int .i64 a0_9, .int .i64 a0_10, .int .i64 a0_11]) (g := b_p0) (by simp [hbx_p0]))
  have hb_0 : Below w.heap.size w (w.alloc (.cells #[.slice A0x n0x c0x, .int .i64 a0_0, .int .i64 a0_1, .int .i64 a0_2, .int .i64 a0_3, .int .i64 a0_4, .slice A0y n0y c0y, .int .i64 a0_5, .int .i64 a0_6, .int .i64 a0_7, .int .i64 a0_8, .int .i64 a0_9, .int .i64 a0_10, .int .i64 a0_11] 70)) := by
    have h : In w.heap.size w (w.alloc (.cells #[.slice A0x n0x c0x, .int .i64 a0_0, .int .i64 a0_1, .int .i64 a0_2, .int .i64 a0_3, .int .i64 a0_4, .slice A0y n0y c0y, .int .i64 a0_5, .int .i64 a0_6, .int .i64 a0_7, .int .i64 a0_8, .int .i64 a0_9, .int .i64 a0_10, .int .i64 a0_11] 70)) := by (repeat (first | exact In.refl _ | assumption | apply In.alloc | apply In.drewN | apply In.drew | (refine In.step ?_ (by assumption))))
    exact h.below
  go_enter Try.func10, Try.ntmps10
  go_wp2_with fail
  rw [← hbx_p0]
  clear hbx_p0
  generalize (w.alloc (.cells #[.slice A0x n0x c0x, .int .i64 a0_0, .int .i64 a0_1, .int .i64 a0_2, .int .i64 a0_3, .int .i64 a0_4, .slice A0y n0y c0y, .int .i64 a0_5, .int .i64 a0_6, .int .i64 a0_7, .int .i64 a0_8, .int .i64 a0_9, .int .i64 a0_10, .int .i64 a0_11] 70)) = w_0 at *
  have i_0 : In w.heap.size w w_0 := In.step (by (repeat (first | exact In.refl _ | assumption | apply In.alloc | apply In.drewN | apply In.drew | (refine In.step ?_ (by assumption))))) hb_0
  have k_0_p0 : Blk w_0 (b_p0) 70 #[.slice A0x n0x c0x, .int .i64 a0_0, .int .i64 a0_1, .int .i64 a0_2, .int .i64 a0_3, .int .i64 a0_4, .slice A0y n0y c0y, .int .i64 a0_5, .int .i64 a0_6, .int .i64 a0_7, .int .i64 a0_8, .int .i64 a0_9, .int .i64 a0_10, .int .i64 a0_11] := kk_p0
  have c_0_p0_0 : w_0.cell? ⟨b_p0, 0, none⟩ = some (.slice A0x n0x c0x) := k_0_p0.cell 0
  have c_0_p0_1 : w_0.cell? ⟨b_p0, 1, none⟩ = some (.int .i64 a0_0) := k_0_p0.cell 1
  have c_0_p0_2 : w_0.cell? ⟨b_p0, 2, none⟩ = some (.int .i64 a0_1) := k_0_p0.cell 2
  have c_0_p0_3 : w_0.cell? ⟨b_p0, 3, none⟩ = some (.int .i64 a0_2) := k_0_p0.cell 3
  have c_0_p0_4 : w_0.cell? ⟨b_p0, 4, none⟩ = some (.int .i64 a0_3) := k_0_p0.cell 4
  have c_0_p0_5 : w_0.cell? ⟨b_p0, 5, none⟩ = some (.int .i64 a0_4) := k_0_p0.cell 5
  have c_0_p0_6 : w_0.cell? ⟨b_p0, 6, none⟩ = some (.slice A0y n0y c0y) := k_0_p0.cell 6
  have c_0_p0_7 : w_0.cell? ⟨b_p0, 7, none⟩ = some (.int .i64 a0_5) := k_0_p0.cell 7
  have c_0_p0_8 : w_0.cell? ⟨b_p0, 8, none⟩ = some (.int .i64 a0_6) := k_0_p0.cell 8
  have c_0_p0_9 : w_0.cell? ⟨b_p0, 9, none⟩ = some (.int .i64 a0_7) := k_0_p0.cell 9
  have c_0_p0_10 : w_0.cell? ⟨b_p0, 10, none⟩ = some (.int .i64 a0_8) := k_0_p0.cell 10
  have c_0_p0_11 : w_0.cell? ⟨b_p0, 11, none⟩ = some (.int .i64 a0_9) := k_0_p0.cell 11
  have c_0_p0_12 : w_0.cell? ⟨b_p0, 12, none⟩ = some (.int .i64 a0_10) := k_0_p0.cell 12
  have c_0_p0_13 : w_0.cell? ⟨b_p0, 13, none⟩ = some (.int .i64 a0_11) := k_0_p0.cell 13
  have l_0_p0 := k_0_p0.lt
  clear kk_p0
  go_wp2_with fail
  refine (szBakery_w A0x n0x c0x A0y n0y c0y a0_0 a0_1 a0_2 a0_3 a0_4 a0_5 a0_6 a0_7 a0_8 a0_9 a0_10 a0_11 (1048576) _ m0x m0y (by omega) (by omega)).mono ?_
  rintro _ w_1 ⟨rfl, hb_1⟩
  rw [if_neg (by omega)]
  have i_1 : In w.heap.size w w_1 := In.step (by (repeat (first | exact In.refl _ | assumption | apply In.alloc | apply In.drewN | apply In.drew | (refine In.step ?_ (by assumption))))) hb_1
  have k_1_p0 : Blk w_1 (b_p0) 70 #[.slice A0x n0x c0x, .int .i64 a0_0, .int .i64 a0_1, .int .i64 a0_2, .int .i64 a0_3, .int .i64 a0_4, .slice A0y n0y c0y, .int .i64 a0_5, .int .i64 a0_6, .int .i64 a0_7, .int .i64 a0_8, .int .i64 a0_9, .int .i64 a0_10, .int .i64 a0_11] := Blk.step (by (with_reducible (repeat (first | assumption | exact Blk.new' (by simp) | apply Blk.drewN | apply Blk.drew | apply Blk.alloc | (refine Blk.far ?_ (by (try simp) <;> omega) _))))) hb_1
  have c_1_p0_0 : w_1.cell? ⟨b_p0, 0, none⟩ = some (.slice A0x n0x c0x) := k_1_p0.cell 0
  have c_1_p0_1 : w_1.cell? ⟨b_p0, 1, none⟩ = some (.int .i64 a0_0) := k_1_p0.cell 1
  have c_1_p0_2 : w_1.cell? ⟨b_p0, 2, none⟩ = some (.int .i64 a0_1) := k_1_p0.cell 2
  have c_1_p0_3 : w_1.cell? ⟨b_p0, 3, none⟩ = some (.int .i64 a0_2) := k_1_p0.cell 3
  have c_1_p0_4 : w_1.cell? ⟨b_p0, 4, none⟩ = some (.int .i64 a0_3) := k_1_p0.cell 4
  have c_1_p0_5 : w_1.cell? ⟨b_p0, 5, none⟩ = some (.int .i64 a0_4) := k_1_p0.cell 5
  have c_1_p0_6 : w_1.cell? ⟨b_p0, 6, none⟩ = some (.slice A0y n0y c0y) := k_1_p0.cell 6
  have c_1_p0_7 : w_1.cell? ⟨b_p0, 7, none⟩ = some (.int .i64 a0_5) := k_1_p0.cell 7
  have c_1_p0_8 : w_1.cell? ⟨b_p0, 8, none⟩ = some (.int .i64 a0_6) := k_1_p0.cell 8
  have c_1_p0_9 : w_1.cell? ⟨b_p0, 9, none⟩ = some (.int .i64 a0_7) := k_1_p0.cell 9
  have c_1_p0_10 : w_1.cell? ⟨b_p0, 10, none⟩ = some (.int .i64 a0_8) := k_1_p0.cell 10
  have c_1_p0_11 : w_1.cell? ⟨b_p0, 11, none⟩ = some (.int .i64 a0_9) := k_1_p0.cell 11
  have c_1_p0_12 : w_1.cell? ⟨b_p0, 12, none⟩ = some (.int .i64 a0_10) := k_1_p0.cell 12
  have c_1_p0_13 : w_1.cell? ⟨b_p0, 13, none⟩ = some (.int .i64 a0_11) := k_1_p0.cell 13
  have l_1_p0 := k_1_p0.lt
  clear i_0 k_0_p0 c_0_p0_0 c_0_p0_1 c_0_p0_2 c_0_p0_3 c_0_p0_4 c_0_p0_5 c_0_p0_6 c_0_p0_7 c_0_p0_8 c_0_p0_9 c_0_p0_10 c_0_p0_11 c_0_p0_12 c_0_p0_13 l_0_p0 hb_0
  go_wp2_with fail
  refine (toBakery_w A0x n0x c0x z0x A0y n0y c0y z0y a0_0 a0_1 a0_2 a0_3 a0_4 a0_5 a0_6 a0_7 a0_8 a0_9 a0_10 a0_11 _ (by first | omega | (unfold maxLen; omega)) (by first | omega | (unfold maxLen; omega)) (R0x.out.in_ (by (repeat (first | exact In.refl _ | assumption | apply In.alloc | apply In.drewN | apply In.drew | (refine In.step ?_ (by assumption)))))) (R0y.out.in_ (by (repeat (first | exact In.refl _ | assumption | apply In.alloc | apply In.drewN | apply In.drew | (refine In.step ?_ (by assumption))))))).mono ?_
  rintro _ w_2 ⟨g0_2, g1_2, rfl, ho0_2, hg0_2, ho1_2, hg1_2, hb_2⟩
  have o_2_X1 : OwnC w_2 g0_2 n0x n0x z0x := ho0_2
  clear ho0_2 hg0_2
  have NE_X1_X2 : Hid (g0_2 ≠ g1_2) := Lib.hid (ne_IE o_2_X1 ho1_2)
  have o_2_X2 : OCEvent w_2 g1_2 n0y n0y z0y := ho1_2
  clear ho1_2 hg1_2
  have i_2 : In w.heap.size w w_2 := In.step (by (repeat (first | exact In.refl _ | assumption | apply In.alloc | apply In.drewN | apply In.drew | (refine In.step ?_ (by assumption))))) hb_2
  have k_2_p0 : Blk w_2 (b_p0) 70 #[.slice A0x n0x c0x, .int .i64 a0_0, .int .i64 a0_1, .int .i64 a0_2, .int .i64 a0_3, .int .i64 a0_4, .slice A0y n0y c0y, .int .i64 a0_5, .int .i64 a0_6, .int .i64 a0_7, .int .i64 a0_8, .int .i64 a0_9, .int .i64 a0_10, .int .i64 a0_11] := Blk.step (by (with_reducible (repeat (first | assumption | exact Blk.new' (by simp) | apply Blk.drewN | apply Blk.drew | apply Blk.alloc | (refine Blk.far ?_ (by (try simp) <;> omega) _))))) hb_2
  have c_2_p0_0 : w_2.cell? ⟨b_p0, 0, none⟩ = some (.slice A0x n0x c0x) := k_2_p0.cell 0
  have c_2_p0_1 : w_2.cell? ⟨b_p0, 1, none⟩ = some (.int .i64 a0_0) := k_2_p0.cell 1
  have c_2_p0_2 : w_2.cell? ⟨b_p0, 2, none⟩ = some (.int .i64 a0_1) := k_2_p0.cell 2
  have c_2_p0_3 : w_2.cell? ⟨b_p0, 3, none⟩ = some (.int .i64 a0_2) := k_2_p0.cell 3
  have c_2_p0_4 : w_2.cell? ⟨b_p0, 4, none⟩ = some (.int .i64 a0_3) := k_2_p0.cell 4
  have c_2_p0_5 : w_2.cell? ⟨b_p0, 5, none⟩ = some (.int .i64 a0_4) := k_2_p0.cell 5
  have c_2_p0_6 : w_2.cell? ⟨b_p0, 6, none⟩ = some (.slice A0y n0y c0y) := k_2_p0.cell 6
  have c_2_p0_7 : w_2.cell? ⟨b_p0, 7, none⟩ = some (.int .i64 a0_5) := k_2_p0.cell 7
  have c_2_p0_8 : w_2.cell? ⟨b_p0, 8, none⟩ = some (.int .i64 a0_6) := k_2_p0.cell 8
  have c_2_p0_9 : w_2.cell? ⟨b_p0, 9, none⟩ = some (.int .i64 a0_7) := k_2_p0.cell 9
  have c_2_p0_10 : w_2.cell? ⟨b_p0, 10, none⟩ = some (.int .i64 a0_8) := k_2_p0.cell 10
  have c_2_p0_11 : w_2.cell? ⟨b_p0, 11, none⟩ = some (.int .i64 a0_9) := k_2_p0.cell 11
  have c_2_p0_12 : w_2.cell? ⟨b_p0, 12, none⟩ = some (.int .i64 a0_10) := k_2_p0.cell 12
  have c_2_p0_13 : w_2.cell? ⟨b_p0, 13, none⟩ = some (.int .i64 a0_11) := k_2_p0.cell 13
  have l_2_p0 := k_2_p0.lt
  clear i_1 k_1_p0 c_1_p0_0 c_1_p0_1 c_1_p0_2 c_1_p0_3 c_1_p0_4 c_1_p0_5 c_1_p0_6 c_1_p0_7 c_1_p0_8 c_1_p0_9 c_1_p0_10 c_1_p0_11 c_1_p0_12 c_1_p0_13 l_1_p0 hb_1
  go_wp2_with fail
  refine (sFlourNeeded g0_2 n0x n0x z0x g1_2 n0y n0y z0y a0_0 a0_1 a0_2 a0_3 a0_4 a0_5 a0_6 a0_7 a0_8 a0_9 a0_10 a0_11 a1 _ (by omega) (by omega) (OwnC.reads (by with_reducible (repeat (first | assumption | apply OwnC.drewN | apply OwnC.drew | apply OwnC.alloc)))) (OCEvent.reads (by with_reducible (repeat (first | assumption | apply OCEvent.drewN | apply OCEvent.drew | apply OCEvent.alloc))))).mono ?_
  rintro _ w_3 ⟨rfl, hb_3⟩
  have i_3 : In w.heap.size w w_3 := In.step (by (repeat (first | exact In.refl _ | assumption | apply In.alloc | apply In.drewN | apply In.drew | (refine In.step ?_ (by assumption))))) hb_3
  have k_3_p0 : Blk w_3 (b_p0) 70 #[.slice A0x n0x c0x, .int .i64 a0_0, .int .i64 a0_1, .int .i64 a0_2, .int .i64 a0_3, .int .i64 a0_4, .slice A0y n0y c0y, .int .i64 a0_5, .int .i64 a0_6, .int .i64 a0_7, .int .i64 a0_8, .int .i64 a0_9, .int .i64 a0_10, .int .i64 a0_11] := Blk.step (by (with_reducible (repeat (first | assumption | exact Blk.new' (by simp) | apply Blk.drewN | apply Blk.drew | apply Blk.alloc | (refine Blk.far ?_ (by (try simp) <;> omega) _))))) hb_3
  have c_3_p0_0 : w_3.cell? ⟨b_p0, 0, none⟩ = some (.slice A0x n0x c0x) := k_3_p0.cell 0
  have c_3_p0_1 : w_3.cell? ⟨b_p0, 1, none⟩ = some (.int .i64 a0_0) := k_3_p0.cell 1
  have c_3_p0_2 : w_3.cell? ⟨b_p0, 2, none⟩ = some (.int .i64 a0_1) := k_3_p0.cell 2
  have c_3_p0_3 : w_3.cell? ⟨b_p0, 3, none⟩ = some (.int .i64 a0_2) := k_3_p0.cell 3
  have c_3_p0_4 : w_3.cell? ⟨b_p0, 4, none⟩ = some (.int .i64 a0_3) := k_3_p0.cell 4
  have c_3_p0_5 : w_3.cell? ⟨b_p0, 5, none⟩ = some (.int .i64 a0_4) := k_3_p0.cell 5
  have c_3_p0_6 : w_3.cell? ⟨b_p0, 6, none⟩ = some (.slice A0y n0y c0y) := k_3_p0.cell 6
  have c_3_p0_7 : w_3.cell? ⟨b_p0, 7, none⟩ = some (.int .i64 a0_5) := k_3_p0.cell 7
  have c_3_p0_8 : w_3.cell? ⟨b_p0, 8, none⟩ = some (.int .i64 a0_6) := k_3_p0.cell 8
  have c_3_p0_9 : w_3.cell? ⟨b_p0, 9, none⟩ = some (.int .i64 a0_7) := k_3_p0.cell 9
  have c_3_p0_10 : w_3.cell? ⟨b_p0, 10, none⟩ = some (.int .i64 a0_8) := k_3_p0.cell 10
  have c_3_p0_11 : w_3.cell? ⟨b_p0, 11, none⟩ = some (.int .i64 a0_9) := k_3_p0.cell 11
  have c_3_p0_12 : w_3.cell? ⟨b_p0, 12, none⟩ = some (.int .i64 a0_10) := k_3_p0.cell 12
  have c_3_p0_13 : w_3.cell? ⟨b_p0, 13, none⟩ = some (.int .i64 a0_11) := k_3_p0.cell 13
  have l_3_p0 := k_3_p0.lt
  clear i_2 k_2_p0 c_2_p0_0 c_2_p0_1 c_2_p0_2 c_2_p0_3 c_2_p0_4 c_2_p0_5 c_2_p0_6 c_2_p0_7 c_2_p0_8 c_2_p0_9 c_2_p0_10 c_2_p0_11 c_2_p0_12 c_2_p0_13 l_2_p0 o_2_X1 o_2_X2 hb_2
  have IC := Lib.hid i_3
  have j_3 : In w_3.heap.size w_3 w_3 := In.refl _
  go_wp2_with fail
  refine (toBakery_w A0x n0x c0x z0x A0y n0y c0y z0y a0_0 a0_1 a0_2 a0_3 a0_4 a0_5 a0_6 a0_7 a0_8 a0_9 a0_10 a0_11 _ (by first | omega | (unfold maxLen; omega)) (by first | omega | (unfold maxLen; omega)) (R0x.out.in_ (IC.out.trans (by (repeat (first | exact In.refl _ | assumption | apply In.alloc | apply In.drewN | apply In.drew | (refine In.step ?_ (by assumption))))))) (R0y.out.in_ (IC.out.trans (by (repeat (first | exact In.refl _ | assumption | apply In.alloc | apply In.drewN | apply In.drew | (refine In.step ?_ (by assumption)))))))).mono ?_
  rintro _ w_4 ⟨g0_4, g1_4, rfl, ho0_4, hg0_4, ho1_4, hg1_4, hb_4⟩
  have GX_X3 : Hid (w_3.heap.size ≤ g0_4) := Lib.hid (by have h1 := hg0_4; (try simp at h1); have h2 := In.size j_3; omega)
  have o_4_X3 : OwnC w_4 g0_4 n0x n0x z0x := ho0_4
  clear ho0_4 hg0_4
  have NE_X3_X4 : Hid (g0_4 ≠ g1_4) := Lib.hid (ne_IE o_4_X3 ho1_4)
  have GX_X4 : Hid (w_3.heap.size ≤ g1_4) := Lib.hid (by have h1 := hg1_4; (try simp at h1); have h2 := In.size j_3; omega)
  have o_4_X4 : OCEvent w_4 g1_4 n0y n0y z0y := ho1_4
  clear ho1_4 hg1_4
  have j_4 : In w_3.heap.size w_3 w_4 := In.step (by (repeat (first | exact In.refl _ | assumption | apply In.alloc | apply In.drewN | apply In.drew | (refine In.step ?_ (by assumption))))) hb_4
  have k_4_p0 : Blk w_4 (b_p0) 70 #[.slice A0x n0x c0x, .int .i64 a0_0, .int .i64 a0_1, .int .i64 a0_2, .int .i64 a0_3, .int .i64 a0_4, .slice A0y n0y c0y, .int .i64 a0_5, .int .i64 a0_6, .int .i64 a0_7, .int .i64 a0_8, .int .i64 a0_9, .int .i64 a0_10, .int .i64 a0_11] := Blk.step (by (with_reducible (repeat (first | assumption | exact Blk.new' (by simp) | apply Blk.drewN | apply Blk.drew | apply Blk.alloc | (refine Blk.far ?_ (by (try simp) <;> omega) _))))) hb_4
  have c_4_p0_0 : w_4.cell? ⟨b_p0, 0, none⟩ = some (.slice A0x n0x c0x) := k_4_p0.cell 0
  have c_4_p0_1 : w_4.cell? ⟨b_p0, 1, none⟩ = some (.int .i64 a0_0) := k_4_p0.cell 1
  have c_4_p0_2 : w_4.cell? ⟨b_p0, 2, none⟩ = some (.int .i64 a0_1) := k_4_p0.cell 2
  have c_4_p0_3 : w_4.cell? ⟨b_p0, 3, none⟩ = some (.int .i64 a0_2) := k_4_p0.cell 3
  have c_4_p0_4 : w_4.cell? ⟨b_p0, 4, none⟩ = some (.int .i64 a0_3) := k_4_p0.cell 4
  have c_4_p0_5 : w_4.cell? ⟨b_p0, 5, none⟩ = some (.int .i64 a0_4) := k_4_p0.cell 5
  have c_4_p0_6 : w_4.cell? ⟨b_p0, 6, none⟩ = some (.slice A0y n0y c0y) := k_4_p0.cell 6
  have c_4_p0_7 : w_4.cell? ⟨b_p0, 7, none⟩ = some (.int .i64 a0_5) := k_4_p0.cell 7
  have c_4_p0_8 : w_4.cell? ⟨b_p0, 8, none⟩ = some (.int .i64 a0_6) := k_4_p0.cell 8
  have c_4_p0_9 : w_4.cell? ⟨b_p0, 9, none⟩ = some (.int .i64 a0_7) := k_4_p0.cell 9
  have c_4_p0_10 : w_4.cell? ⟨b_p0, 10, none⟩ = some (.int .i64 a0_8) := k_4_p0.cell 10
  have c_4_p0_11 : w_4.cell? ⟨b_p0, 11, none⟩ = some (.int .i64 a0_9) := k_4_p0.cell 11
  have c_4_p0_12 : w_4.cell? ⟨b_p0, 12, none⟩ = some (.int .i64 a0_10) := k_4_p0.cell 12
  have c_4_p0_13 : w_4.cell? ⟨b_p0, 13, none⟩ = some (.int .i64 a0_11) := k_4_p0.cell 13
  have l_4_p0 := k_4_p0.lt
  clear i_3 k_3_p0 c_3_p0_0 c_3_p0_1 c_3_p0_2 c_3_p0_3 c_3_p0_4 c_3_p0_5 c_3_p0_6 c_3_p0_7 c_3_p0_8 c_3_p0_9 c_3_p0_10 c_3_p0_11 c_3_p0_12 c_3_p0_13 l_3_p0 hb_3 j_3
  go_wp2_with fail
  obtain ⟨b_l1, hbx_l1⟩ : ∃ b, b = w_4.heap.size := ⟨_, rfl⟩
  rw [← hbx_l1]
  have hb_5 : Below w_4.heap.size w_4 (w_4.alloc (.cells #[.slice (some ⟨g0_4, 0, none⟩) n0x n0x, .int .i64 a0_0, .int .i64 a0_1, .int .i64 a0_2, .int .i64 a0_3, .int .i64 a0_4, .slice (some ⟨g1_4, 0, none⟩) n0y n0y, .int .i64 a0_5, .int .i64 a0_6, .int .i64 a0_7, .int .i64 a0_8, .int .i64 a0_9, .int .i64 a0_10, .int .i64 a0_11] 76)) := (Below.refl _ _).alloc (Nat.le_refl _) _
  have kk_5 : Blk (w_4.alloc (.cells #[.slice (some ⟨g0_4, 0, none⟩) n0x n0x, .int .i64 a0_0, .int .i64 a0_1, .int .i64 a0_2, .int .i64 a0_3, .int .i64 a0_4, .slice (some ⟨g1_4, 0, none⟩) n0y n0y, .int .i64 a0_5, .int .i64 a0_6, .int .i64 a0_7, .int .i64 a0_8, .int .i64 a0_9, .int .i64 a0_10, .int .i64 a0_11] 76)) b_l1 76 #[.slice (some ⟨g0_4, 0, none⟩) n0x n0x, .int .i64 a0_0, .int .i64 a0_1, .int .i64 a0_2, .int .i64 a0_3, .int .i64 a0_4, .slice (some ⟨g1_4, 0, none⟩) n0y n0y, .int .i64 a0_5, .int .i64 a0_6, .int .i64 a0_7, .int .i64 a0_8, .int .i64 a0_9, .int .i64 a0_10, .int .i64 a0_11] := Blk.new' hbx_l1
  clear hbx_l1
  generalize (w_4.alloc (.cells #[.slice (some ⟨g0_4, 0, none⟩) n0x n0x, .int .i64 a0_0, .int .i64 a0_1, .int .i64 a0_2, .int .i64 a0_3, .int .i64 a0_4, .slice (some ⟨g1_4, 0, none⟩) n0y n0y, .int .i64 a0_5, .int .i64 a0_6, .int .i64 a0_7, .int .i64 a0_8, .int .i64 a0_9, .int .i64 a0_10, .int .i64 a0_11] 76)) = w_5 at *
  have j_5 : In w_3.heap.size w_3 w_5 := In.step (by (repeat (first | exact In.refl _ | assumption | apply In.alloc | apply In.drewN | apply In.drew | (refine In.step ?_ (by assumption))))) hb_5
  have k_5_p0 : Blk w_5 (b_p0) 70 #[.slice A0x n0x c0x, .int .i64 a0_0, .int .i64 a0_1, .int .i64 a0_2, .int .i64 a0_3, .int .i64 a0_4, .slice A0y n0y c0y, .int .i64 a0_5, .int .i64 a0_6, .int .i64 a0_7, .int .i64 a0_8, .int .i64 a0_9, .int .i64 a0_10, .int .i64 a0_11] := Blk.step (by (with_reducible (repeat (first | assumption | exact Blk.new' (by simp) | apply Blk.drewN | apply Blk.drew | apply Blk.alloc | (refine Blk.far ?_ (by (try simp) <;> omega) _))))) hb_5
  have c_5_p0_0 : w_5.cell? ⟨b_p0, 0, none⟩ = some (.slice A0x n0x c0x) := k_5_p0.cell 0
  have c_5_p0_1 : w_5.cell? ⟨b_p0, 1, none⟩ = some (.int .i64 a0_0) := k_5_p0.cell 1
  have c_5_p0_2 : w_5.cell? ⟨b_p0, 2, none⟩ = some (.int .i64 a0_1) := k_5_p0.cell 2
  have c_5_p0_3 : w_5.cell? ⟨b_p0, 3, none⟩ = some (.int .i64 a0_2) := k_5_p0.cell 3
  have c_5_p0_4 : w_5.cell? ⟨b_p0, 4, none⟩ = some (.int .i64 a0_3) := k_5_p0.cell 4
  have c_5_p0_5 : w_5.cell? ⟨b_p0, 5, none⟩ = some (.int .i64 a0_4) := k_5_p0.cell 5
  have c_5_p0_6 : w_5.cell? ⟨b_p0, 6, none⟩ = some (.slice A0y n0y c0y) := k_5_p0.cell 6
  have c_5_p0_7 : w_5.cell? ⟨b_p0, 7, none⟩ = some (.int .i64 a0_5) := k_5_p0.cell 7
  have c_5_p0_8 : w_5.cell? ⟨b_p0, 8, none⟩ = some (.int .i64 a0_6) := k_5_p0.cell 8
  have c_5_p0_9 : w_5.cell? ⟨b_p0, 9, none⟩ = some (.int .i64 a0_7) := k_5_p0.cell 9
  have c_5_p0_10 : w_5.cell? ⟨b_p0, 10, none⟩ = some (.int .i64 a0_8) := k_5_p0.cell 10
  have c_5_p0_11 : w_5.cell? ⟨b_p0, 11, none⟩ = some (.int .i64 a0_9) := k_5_p0.cell 11
  have c_5_p0_12 : w_5.cell? ⟨b_p0, 12, none⟩ = some (.int .i64 a0_10) := k_5_p0.cell 12
  have c_5_p0_13 : w_5.cell? ⟨b_p0, 13, none⟩ = some (.int .i64 a0_11) := k_5_p0.cell 13
  have l_5_p0 := k_5_p0.lt
  have k_5_l1 : Blk w_5 (b_l1) 76 #[.slice (some ⟨g0_4, 0, none⟩) n0x n0x, .int .i64 a0_0, .int .i64 a0_1, .int .i64 a0_2, .int .i64 a0_3, .int .i64 a0_4, .slice (some ⟨g1_4, 0, none⟩) n0y n0y, .int .i64 a0_5, .int .i64 a0_6, .int .i64 a0_7, .int .i64 a0_8, .int .i64 a0_9, .int .i64 a0_10, .int .i64 a0_11] := kk_5
  have c_5_l1_0 : w_5.cell? ⟨b_l1, 0, none⟩ = some (.slice (some ⟨g0_4, 0, none⟩) n0x n0x) := k_5_l1.cell 0
  have c_5_l1_1 : w_5.cell? ⟨b_l1, 1, none⟩ = some (.int .i64 a0_0) := k_5_l1.cell 1
  have c_5_l1_2 : w_5.cell? ⟨b_l1, 2, none⟩ = some (.int .i64 a0_1) := k_5_l1.cell 2
  have c_5_l1_3 : w_5.cell? ⟨b_l1, 3, none⟩ = some (.int .i64 a0_2) := k_5_l1.cell 3
  have c_5_l1_4 : w_5.cell? ⟨b_l1, 4, none⟩ = some (.int .i64 a0_3) := k_5_l1.cell 4
  have c_5_l1_5 : w_5.cell? ⟨b_l1, 5, none⟩ = some (.int .i64 a0_4) := k_5_l1.cell 5
  have c_5_l1_6 : w_5.cell? ⟨b_l1, 6, none⟩ = some (.slice (some ⟨g1_4, 0, none⟩) n0y n0y) := k_5_l1.cell 6
  have c_5_l1_7 : w_5.cell? ⟨b_l1, 7, none⟩ = some (.int .i64 a0_5) := k_5_l1.cell 7
  have c_5_l1_8 : w_5.cell? ⟨b_l1, 8, none⟩ = some (.int .i64 a0_6) := k_5_l1.cell 8
  have c_5_l1_9 : w_5.cell? ⟨b_l1, 9, none⟩ = some (.int .i64 a0_7) := k_5_l1.cell 9
  have c_5_l1_10 : w_5.cell? ⟨b_l1, 10, none⟩ = some (.int .i64 a0_8) := k_5_l1.cell 10
  have c_5_l1_11 : w_5.cell? ⟨b_l1, 11, none⟩ = some (.int .i64 a0_9) := k_5_l1.cell 11
  have c_5_l1_12 : w_5.cell? ⟨b_l1, 12, none⟩ = some (.int .i64 a0_10) := k_5_l1.cell 12
  have c_5_l1_13 : w_5.cell? ⟨b_l1, 13, none⟩ = some (.int .i64 a0_11) := k_5_l1.cell 13
  have l_5_l1 := k_5_l1.lt
  have o_5_X3 : OwnC w_5 g0_4 n0x n0x z0x := OwnC.step (by with_reducible (repeat (first | assumption | apply OwnC.drewN | apply OwnC.drew | apply OwnC.alloc))) hb_5
  have o_5_X4 : OCEvent w_5 g1_4 n0y n0y z0y := OCEvent.step (by with_reducible (repeat (first | assumption | apply OCEvent.drewN | apply OCEvent.drew | apply OCEvent.alloc))) hb_5
  clear j_4 k_4_p0 c_4_p0_0 c_4_p0_1 c_4_p0_2 c_4_p0_3 c_4_p0_4 c_4_p0_5 c_4_p0_6 c_4_p0_7 c_4_p0_8 c_4_p0_9 c_4_p0_10 c_4_p0_11 c_4_p0_12 c_4_p0_13 l_4_p0 o_4_X3 o_4_X4 hb_4
  clear kk_5
  go_wp2_with fail
  refine (iFlourNeeded g0_4 n0x n0x z0x g1_4 n0y n0y z0y a0_0 a0_1 a0_2 a0_3 a0_4 a0_5 a0_6 a0_7 a0_8 a0_9 a0_10 a0_11 a1 _ (by omega) (by omega) (OwnC.reads (by with_reducible (repeat (first | assumption | apply OwnC.drewN | apply OwnC.drew | apply OwnC.alloc)))) (OCEvent.reads (by with_reducible (repeat (first | assumption | apply OCEvent.drewN | apply OCEvent.drew | apply OCEvent.alloc))))).mono ?_
  rintro _ w_6 ⟨rfl, hb_6⟩
  have j_6 : In w_3.heap.size w_3 w_6 := In.step (by (repeat (first | exact In.refl _ | assumption | apply In.alloc | apply In.drewN | apply In.drew | (refine In.step ?_ (by assumption))))) hb_6
  have k_6_p0 : Blk w_6 (b_p0) 70 #[.slice A0x n0x c0x, .int .i64 a0_0, .int .i64 a0_1, .int .i64 a0_2, .int .i64 a0_3, .int .i64 a0_4, .slice A0y n0y c0y, .int .i64 a0_5, .int .i64 a0_6, .int .i64 a0_7, .int .i64 a0_8, .int .i64 a0_9, .int .i64 a0_10, .int .i64 a0_11] := Blk.step (by (with_reducible (repeat (first | assumption | exact Blk.new' (by simp) | apply Blk.drewN | apply Blk.drew | apply Blk.alloc | (refine Blk.far ?_ (by (try simp) <;> omega) _))))) hb_6
  have c_6_p0_0 : w_6.cell? ⟨b_p0, 0, none⟩ = some (.slice A0x n0x c0x) := k_6_p0.cell 0
  have c_6_p0_1 : w_6.cell? ⟨b_p0, 1, none⟩ = some (.int .i64 a0_0) := k_6_p0.cell 1
  have c_6_p0_2 : w_6.cell? ⟨b_p0, 2, none⟩ = some (.int .i64 a0_1) := k_6_p0.cell 2
  have c_6_p0_3 : w_6.cell? ⟨b_p0, 3, none⟩ = some (.int .i64 a0_2) := k_6_p0.cell 3
  have c_6_p0_4 : w_6.cell? ⟨b_p0, 4, none⟩ = some (.int .i64 a0_3) := k_6_p0.cell 4
  have c_6_p0_5 : w_6.cell? ⟨b_p0, 5, none⟩ = some (.int .i64 a0_4) := k_6_p0.cell 5
  have c_6_p0_6 : w_6.cell? ⟨b_p0, 6, none⟩ = some (.slice A0y n0y c0y) := k_6_p0.cell 6
  have c_6_p0_7 : w_6.cell? ⟨b_p0, 7, none⟩ = some (.int .i64 a0_5) := k_6_p0.cell 7
  have c_6_p0_8 : w_6.cell? ⟨b_p0, 8, none⟩ = some (.int .i64 a0_6) := k_6_p0.cell 8
  have c_6_p0_9 : w_6.cell? ⟨b_p0, 9, none⟩ = some (.int .i64 a0_7) := k_6_p0.cell 9
  have c_6_p0_10 : w_6.cell? ⟨b_p0, 10, none⟩ = some (.int .i64 a0_8) := k_6_p0.cell 10
  have c_6_p0_11 : w_6.cell? ⟨b_p0, 11, none⟩ = some (.int .i64 a0_9) := k_6_p0.cell 11
  have c_6_p0_12 : w_6.cell? ⟨b_p0, 12, none⟩ = some (.int .i64 a0_10) := k_6_p0.cell 12
  have c_6_p0_13 : w_6.cell? ⟨b_p0, 13, none⟩ = some (.int .i64 a0_11) := k_6_p0.cell 13
  have l_6_p0 := k_6_p0.lt
  have k_6_l1 : Blk w_6 (b_l1) 76 #[.slice (some ⟨g0_4, 0, none⟩) n0x n0x, .int .i64 a0_0, .int .i64 a0_1, .int .i64 a0_2, .int .i64 a0_3, .int .i64 a0_4, .slice (some ⟨g1_4, 0, none⟩) n0y n0y, .int .i64 a0_5, .int .i64 a0_6, .int .i64 a0_7, .int .i64 a0_8, .int .i64 a0_9, .int .i64 a0_10, .int .i64 a0_11] := Blk.step (by (with_reducible (repeat (first | assumption | exact Blk.new' (by simp) | apply Blk.drewN | apply Blk.drew | apply Blk.alloc | (refine Blk.far ?_ (by (try simp) <;> omega) _))))) hb_6
  have c_6_l1_0 : w_6.cell? ⟨b_l1, 0, none⟩ = some (.slice (some ⟨g0_4, 0, none⟩) n0x n0x) := k_6_l1.cell 0
  have c_6_l1_1 : w_6.cell? ⟨b_l1, 1, none⟩ = some (.int .i64 a0_0) := k_6_l1.cell 1
  have c_6_l1_2 : w_6.cell? ⟨b_l1, 2, none⟩ = some (.int .i64 a0_1) := k_6_l1.cell 2
  have c_6_l1_3 : w_6.cell? ⟨b_l1, 3, none⟩ = some (.int .i64 a0_2) := k_6_l1.cell 3
  have c_6_l1_4 : w_6.cell? ⟨b_l1, 4, none⟩ = some (.int .i64 a0_3) := k_6_l1.cell 4
  have c_6_l1_5 : w_6.cell? ⟨b_l1, 5, none⟩ = some (.int .i64 a0_4) := k_6_l1.cell 5
  have c_6_l1_6 : w_6.cell? ⟨b_l1, 6, none⟩ = some (.slice (some ⟨g1_4, 0, none⟩) n0y n0y) := k_6_l1.cell 6
  have c_6_l1_7 : w_6.cell? ⟨b_l1, 7, none⟩ = some (.int .i64 a0_5) := k_6_l1.cell 7
  have c_6_l1_8 : w_6.cell? ⟨b_l1, 8, none⟩ = some (.int .i64 a0_6) := k_6_l1.cell 8
  have c_6_l1_9 : w_6.cell? ⟨b_l1, 9, none⟩ = some (.int .i64 a0_7) := k_6_l1.cell 9
  have c_6_l1_10 : w_6.cell? ⟨b_l1, 10, none⟩ = some (.int .i64 a0_8) := k_6_l1.cell 10
  have c_6_l1_11 : w_6.cell? ⟨b_l1, 11, none⟩ = some (.int .i64 a0_9) := k_6_l1.cell 11
  have c_6_l1_12 : w_6.cell? ⟨b_l1, 12, none⟩ = some (.int .i64 a0_10) := k_6_l1.cell 12
  have c_6_l1_13 : w_6.cell? ⟨b_l1, 13, none⟩ = some (.int .i64 a0_11) := k_6_l1.cell 13
  have l_6_l1 := k_6_l1.lt
  have o_6_X3 : OwnC w_6 g0_4 n0x n0x z0x := OwnC.step (by with_reducible (repeat (first | assumption | apply OwnC.drewN | apply OwnC.drew | apply OwnC.alloc))) hb_6
  have o_6_X4 : OCEvent w_6 g1_4 n0y n0y z0y := OCEvent.step (by with_reducible (repeat (first | assumption | apply OCEvent.drewN | apply OCEvent.drew | apply OCEvent.alloc))) hb_6
  clear j_5 k_5_p0 c_5_p0_0 c_5_p0_1 c_5_p0_2 c_5_p0_3 c_5_p0_4 c_5_p0_5 c_5_p0_6 c_5_p0_7 c_5_p0_8 c_5_p0_9 c_5_p0_10 c_5_p0_11 c_5_p0_12 c_5_p0_13 l_5_p0 k_5_l1 c_5_l1_0 c_5_l1_1 c_5_l1_2 c_5_l1_3 c_5_l1_4 c_5_l1_5 c_5_l1_6 c_5_l1_7 c_5_l1_8 c_5_l1_9 c_5_l1_10 c_5_l1_11 c_5_l1_12 c_5_l1_13 l_5_l1 o_5_X3 o_5_X4 hb_5
  go_wp2_with fail
  have hBw_6 : w_6.heap.size ≤ w_6.heap.size := Nat.le_refl _
  obtain ⟨B_6, hB_6⟩ : ∃ B, B = w_6.heap.size := ⟨_, rfl⟩
  have hBl_6 : B_6 ≤ w_6.heap.size := by omega
  have hBg_6 : w_6.heap.size ≤ B_6 := by omega
  clear hBw_6 hB_6
  refine wp_region_facts2 (JIFlourNeededa w_6 A0x n0x c0x z0x a0_0 a0_1 a0_2 a0_3 a0_4 A0y n0y c0y z0y a0_5 a0_6 a0_7 a0_8 a0_9 a0_10 a0_11 a1 b_p0 g0_2 g1_2 g0_4 g1_4 b_l1) (JFFlourNeededa B_6 A0x n0x c0x z0x a0_0 a0_1 a0_2 a0_3 a0_4 A0y n0y c0y z0y a0_5 a0_6 a0_7 a0_8 a0_9 a0_10 a0_11 a1 b_p0 g0_2 g1_2 g0_4 g1_4 b_l1) (fun j => j == 4) (fun k j => (k == 2 && (j == 1)) || (k == 3 && (j == 0 || j == 2)) || (k == 4 && (j == 3))) (by kernel_rfl) (by kernel_rfl) ⟨⟨fun _ => undef, rfl⟩, (In.refl _).drew⟩ ?_ ?_
  · intro a v1 i o ho hI haf
    obtain ⟨⟨f, rfl⟩, hin⟩ := hI
    have kv_p0 : Blk v1 (b_p0) 70 #[.slice A0x n0x c0x, .int .i64 a0_0, .int .i64 a0_1, .int .i64 a0_2, .int .i64 a0_3, .int .i64 a0_4, .slice A0y n0y c0y, .int .i64 a0_5, .int .i64 a0_6, .int .i64 a0_7, .int .i64 a0_8, .int .i64 a0_9, .int .i64 a0_10, .int .i64 a0_11] := Blk.step k_6_p0 hin.below
    have cv_p0_0 := kv_p0.cell 0
    have cv_p0_1 := kv_p0.cell 1
    have cv_p0_2 := kv_p0.cell 2
    have cv_p0_3 := kv_p0.cell 3
    have cv_p0_4 := kv_p0.cell 4
    have cv_p0_5 := kv_p0.cell 5
    have cv_p0_6 := kv_p0.cell 6
    have cv_p0_7 := kv_p0.cell 7
    have cv_p0_8 := kv_p0.cell 8
    have cv_p0_9 := kv_p0.cell 9
    have cv_p0_10 := kv_p0.cell 10
    have cv_p0_11 := kv_p0.cell 11
    have cv_p0_12 := kv_p0.cell 12
    have cv_p0_13 := kv_p0.cell 13
    have kv_l1 : Blk v1 (b_l1) 76 #[.slice (some ⟨g0_4, 0, none⟩) n0x n0x, .int .i64 a0_0, .int .i64 a0_1, .int .i64 a0_2, .int .i64 a0_3, .int .i64 a0_4, .slice (some ⟨g1_4, 0, none⟩) n0y n0y, .int .i64 a0_5, .int .i64 a0_6, .int .i64 a0_7, .int .i64 a0_8, .int .i64 a0_9, .int .i64 a0_10, .int .i64 a0_11] := Blk.step k_6_l1 hin.below
    have cv_l1_0 := kv_l1.cell 0
    have cv_l1_1 := kv_l1.cell 1
    have cv_l1_2 := kv_l1.cell 2
    have cv_l1_3 := kv_l1.cell 3
    have cv_l1_4 := kv_l1.cell 4
    have cv_l1_5 := kv_l1.cell 5
    have cv_l1_6 := kv_l1.cell 6
    have cv_l1_7 := kv_l1.cell 7
    have cv_l1_8 := kv_l1.cell 8
    have cv_l1_9 := kv_l1.cell 9
    have cv_l1_10 := kv_l1.cell 10
    have cv_l1_11 := kv_l1.cell 11
    have cv_l1_12 := kv_l1.cell 12
    have cv_l1_13 := kv_l1.cell 13
    have ov_X3 : OwnC v1 g0_4 n0x n0x z0x := OwnC.step o_6_X3 hin.below
    have ov_X4 : OCEvent v1 g1_4 n0y n0y z0y := OCEvent.step o_6_X4 hin.below
    have hi : i < 5 := by
      rcases Nat.lt_or_ge i 5 with h | h
      · exact h
      · simp [h] at ho
    suffices H : ∀ K : Act → World → Prop, (∀ a' w', ((JIFlourNeededa w_6 A0x n0x c0x z0x a0_0 a0_1 a0_2 a0_3 a0_4 A0y n0y c0y z0y a0_5 a0_6 a0_7 a0_8 a0_9 a0_10 a0_11 a1 b_p0 g0_2 g1_2 g0_4 g1_4 b_l1) a' w' ∧ (JFFlourNeededa B_6 A0x n0x c0x z0x a0_0 a0_1 a0_2 a0_3 a0_4 A0y n0y c0y z0y a0_5 a0_6 a0_7 a0_8 a0_9 a0_10 a0_11 a1 b_p0 g0_2 g1_2 g0_4 g1_4 b_l1) i a' w' ∧ ∀ j, j ≠ i → waitsT _ 6 j i = false → ((fun j => j == 4) j || usesB _ (fun k j => (k == 2 && (j == 1)) || (k == 3 && (j == 0 || j == 2)) || (k == 4 && (j == 3))) i j) = true → (JFFlourNeededa B_6 A0x n0x c0x z0x a0_0 a0_1 a0_2 a0_3 a0_4 A0y n0y c0y z0y a0_5 a0_6 a0_7 a0_8 a0_9 a0_10 a0_11 a1 b_p0 g0_2 g1_2 g0_4 g1_4 b_l1) j ⟨#[Value.agg #[Value.slice A0x n0x c0x, Value.int IntKind.i64 a0_0, Value.int IntKind.i64 a0_1, Value.int IntKind.i64 a0_2, Value.int IntKind.i64 a0_3, Value.int IntKind.i64 a0_4, Value.slice A0y n0y c0y, Value.int IntKind.i64 a0_5, Value.int IntKind.i64 a0_6, Value.int IntKind.i64 a0_7, Value.int IntKind.i64 a0_8, Value.int IntKind.i64 a0_9, Value.int IntKind.i64 a0_10, Value.int IntKind.i64 a0_11], Value.int IntKind.i64 a1, Value.pointer (some { block := b_p0, off := 0 }), undef, Value.bool false, Value.int IntKind.i64 (1048576 - ((n0x : Nat) : Int) - ((n0y : Nat) : Int)), Value.int IntKind.i64 (fnV n0x z0x n0y z0y a0_0 a0_1 a0_2 a0_3 a0_4 a0_5 a0_6 a0_7 a0_8 a0_9 a0_10 a0_11 a1), Value.pointer (some { block := b_l1, off := 0 }), Value.int IntKind.i64 (fnV n0x z0x n0y z0y a0_0 a0_1 a0_2 a0_3 a0_4 a0_5 a0_6 a0_7 a0_8 a0_9 a0_10 a0_11 a1), Value.agg #[Value.slice A0x n0x c0x, Value.int IntKind.i64 a0_0, Value.int IntKind.i64 a0_1, Value.int IntKind.i64 a0_2, Value.int IntKind.i64 a0_3, Value.int IntKind.i64 a0_4, Value.slice A0y n0y c0y, Value.int IntKind.i64 a0_5, Value.int IntKind.i64 a0_6, Value.int IntKind.i64 a0_7, Value.int IntKind.i64 a0_8, Value.int IntKind.i64 a0_9, Value.int IntKind.i64 a0_10, Value.int IntKind.i64 a0_11], Value.int IntKind.i64 1048576, Value.int IntKind.i64 (1048576 - ((n0x : Nat) : Int) - ((n0y : Nat) : Int)), Value.int IntKind.i64 (1048576 - ((n0x : Nat) : Int) - ((n0y : Nat) : Int)), Value.bool (decide (1048576 - ((n0x : Nat) : Int) - ((n0y : Nat) : Int) < 0)), Value.agg #[Value.slice A0x n0x c0x, Value.int IntKind.i64 a0_0, Value.int IntKind.i64 a0_1, Value.int IntKind.i64 a0_2, Value.int IntKind.i64 a0_3, Value.int IntKind.i64 a0_4, Value.slice A0y n0y c0y, Value.int IntKind.i64 a0_5, Value.int IntKind.i64 a0_6, Value.int IntKind.i64 a0_7, Value.int IntKind.i64 a0_8, Value.int IntKind.i64 a0_9, Value.int IntKind.i64 a0_10, Value.int IntKind.i64 a0_11], Value.agg #[Value.slice (some { block := g0_2, off := 0 }) n0x n0x, Value.int IntKind.i64 a0_0, Value.int IntKind.i64 a0_1, Value.int IntKind.i64 a0_2, Value.int IntKind.i64 a0_3, Value.int IntKind.i64 a0_4, Value.slice (some { block := g1_2, off := 0 }) n0y n0y, Value.int IntKind.i64 a0_5, Value.int IntKind.i64 a0_6, Value.int IntKind.i64 a0_7, Value.int IntKind.i64 a0_8, Value.int IntKind.i64 a0_9, Value.int IntKind.i64 a0_10, Value.int IntKind.i64 a0_11], Value.int IntKind.i64 a1, Value.int IntKind.i64 (fnV n0x z0x n0y z0y a0_0 a0_1 a0_2 a0_3 a0_4 a0_5 a0_6 a0_7 a0_8 a0_9 a0_10 a0_11 a1), Value.agg #[Value.slice A0x n0x c0x, Value.int IntKind.i64 a0_0, Value.int IntKind.i64 a0_1, Value.int IntKind.i64 a0_2, Value.int IntKind.i64 a0_3, Value.int IntKind.i64 a0_4, Value.slice A0y n0y c0y, Value.int IntKind.i64 a0_5, Value.int IntKind.i64 a0_6, Value.int IntKind.i64 a0_7, Value.int IntKind.i64 a0_8, Value.int IntKind.i64 a0_9, Value.int IntKind.i64 a0_10, Value.int IntKind.i64 a0_11], Value.agg #[Value.slice (some { block := g0_4, off := 0 }) n0x n0x, Value.int IntKind.i64 a0_0, Value.int IntKind.i64 a0_1, Value.int IntKind.i64 a0_2, Value.int IntKind.i64 a0_3, Value.int IntKind.i64 a0_4, Value.slice (some { block := g1_4, off := 0 }) n0y n0y, Value.int IntKind.i64 a0_5, Value.int IntKind.i64 a0_6, Value.int IntKind.i64 a0_7, Value.int IntKind.i64 a0_8, Value.int IntKind.i64 a0_9, Value.int IntKind.i64 a0_10, Value.int IntKind.i64 a0_11], Value.agg #[Value.slice (some { block := g0_4, off := 0 }) n0x n0x, Value.int IntKind.i64 a0_0, Value.int IntKind.i64 a0_1, Value.int IntKind.i64 a0_2, Value.int IntKind.i64 a0_3, Value.int IntKind.i64 a0_4, Value.slice (some { block := g1_4, off := 0 }) n0y n0y, Value.int IntKind.i64 a0_5, Value.int IntKind.i64 a0_6, Value.int IntKind.i64 a0_7, Value.int IntKind.i64 a0_8, Value.int IntKind.i64 a0_9, Value.int IntKind.i64 a0_10, Value.int IntKind.i64 a0_11], Value.int IntKind.i64 a1, Value.int IntKind.i64 (fnV n0x z0x n0y z0y a0_0 a0_1 a0_2 a0_3 a0_4 a0_5 a0_6 a0_7 a0_8 a0_9 a0_10 a0_11 a1), Value.int IntKind.i64 (fnV n0x z0x n0y z0y a0_0 a0_1 a0_2 a0_3 a0_4 a0_5 a0_6 a0_7 a0_8 a0_9 a0_10 a0_11 a1), Value.int IntKind.i64 (fnV n0x z0x n0y z0y a0_0 a0_1 a0_2 a0_3 a0_4 a0_5 a0_6 a0_7 a0_8 a0_9 a0_10 a0_11 a1), Value.bool false, f 26, f 27, f 28, f 29, f 30], []⟩ v1 → (JFFlourNeededa B_6 A0x n0x c0x z0x a0_0 a0_1 a0_2 a0_3 a0_4 A0y n0y c0y z0y a0_5 a0_6 a0_7 a0_8 a0_9 a0_10 a0_11 a1 b_p0 g0_2 g1_2 g0_4 g1_4 b_l1) j a' w') → K a' w') → wpOp _ _ _ i K ⟨#[Value.agg #[Value.slice A0x n0x c0x, Value.int IntKind.i64 a0_0, Value.int IntKind.i64 a0_1, Value.int IntKind.i64 a0_2, Value.int IntKind.i64 a0_3, Value.int IntKind.i64 a0_4, Value.slice A0y n0y c0y, Value.int IntKind.i64 a0_5, Value.int IntKind.i64 a0_6, Value.int IntKind.i64 a0_7, Value.int IntKind.i64 a0_8, Value.int IntKind.i64 a0_9, Value.int IntKind.i64 a0_10, Value.int IntKind.i64 a0_11], Value.int IntKind.i64 a1, Value.pointer (some { block := b_p0, off := 0 }), undef, Value.bool false, Value.int IntKind.i64 (1048576 - ((n0x : Nat) : Int) - ((n0y : Nat) : Int)), Value.int IntKind.i64 (fnV n0x z0x n0y z0y a0_0 a0_1 a0_2 a0_3 a0_4 a0_5 a0_6 a0_7 a0_8 a0_9 a0_10 a0_11 a1), Value.pointer (some { block := b_l1, off := 0 }), Value.int IntKind.i64 (fnV n0x z0x n0y z0y a0_0 a0_1 a0_2 a0_3 a0_4 a0_5 a0_6 a0_7 a0_8 a0_9 a0_10 a0_11 a1), Value.agg #[Value.slice A0x n0x c0x, Value.int IntKind.i64 a0_0, Value.int IntKind.i64 a0_1, Value.int IntKind.i64 a0_2, Value.int IntKind.i64 a0_3, Value.int IntKind.i64 a0_4, Value.slice A0y n0y c0y, Value.int IntKind.i64 a0_5, Value.int IntKind.i64 a0_6, Value.int IntKind.i64 a0_7, Value.int IntKind.i64 a0_8, Value.int IntKind.i64 a0_9, Value.int IntKind.i64 a0_10, Value.int IntKind.i64 a0_11], Value.int IntKind.i64 1048576, Value.int IntKind.i64 (1048576 - ((n0x : Nat) : Int) - ((n0y : Nat) : Int)), Value.int IntKind.i64 (1048576 - ((n0x : Nat) : Int) - ((n0y : Nat) : Int)), Value.bool (decide (1048576 - ((n0x : Nat) : Int) - ((n0y : Nat) : Int) < 0)), Value.agg #[Value.slice A0x n0x c0x, Value.int IntKind.i64 a0_0, Value.int IntKind.i64 a0_1, Value.int IntKind.i64 a0_2, Value.int IntKind.i64 a0_3, Value.int IntKind.i64 a0_4, Value.slice A0y n0y c0y, Value.int IntKind.i64 a0_5, Value.int IntKind.i64 a0_6, Value.int IntKind.i64 a0_7, Value.int IntKind.i64 a0_8, Value.int IntKind.i64 a0_9, Value.int IntKind.i64 a0_10, Value.int IntKind.i64 a0_11], Value.agg #[Value.slice (some { block := g0_2, off := 0 }) n0x n0x, Value.int IntKind.i64 a0_0, Value.int IntKind.i64 a0_1, Value.int IntKind.i64 a0_2, Value.int IntKind.i64 a0_3, Value.int IntKind.i64 a0_4, Value.slice (some { block := g1_2, off := 0 }) n0y n0y, Value.int IntKind.i64 a0_5, Value.int IntKind.i64 a0_6, Value.int IntKind.i64 a0_7, Value.int IntKind.i64 a0_8, Value.int IntKind.i64 a0_9, Value.int IntKind.i64 a0_10, Value.int IntKind.i64 a0_11], Value.int IntKind.i64 a1, Value.int IntKind.i64 (fnV n0x z0x n0y z0y a0_0 a0_1 a0_2 a0_3 a0_4 a0_5 a0_6 a0_7 a0_8 a0_9 a0_10 a0_11 a1), Value.agg #[Value.slice A0x n0x c0x, Value.int IntKind.i64 a0_0, Value.int IntKind.i64 a0_1, Value.int IntKind.i64 a0_2, Value.int IntKind.i64 a0_3, Value.int IntKind.i64 a0_4, Value.slice A0y n0y c0y, Value.int IntKind.i64 a0_5, Value.int IntKind.i64 a0_6, Value.int IntKind.i64 a0_7, Value.int IntKind.i64 a0_8, Value.int IntKind.i64 a0_9, Value.int IntKind.i64 a0_10, Value.int IntKind.i64 a0_11], Value.agg #[Value.slice (some { block := g0_4, off := 0 }) n0x n0x, Value.int IntKind.i64 a0_0, Value.int IntKind.i64 a0_1, Value.int IntKind.i64 a0_2, Value.int IntKind.i64 a0_3, Value.int IntKind.i64 a0_4, Value.slice (some { block := g1_4, off := 0 }) n0y n0y, Value.int IntKind.i64 a0_5, Value.int IntKind.i64 a0_6, Value.int IntKind.i64 a0_7, Value.int IntKind.i64 a0_8, Value.int IntKind.i64 a0_9, Value.int IntKind.i64 a0_10, Value.int IntKind.i64 a0_11], Value.agg #[Value.slice (some { block := g0_4, off := 0 }) n0x n0x, Value.int IntKind.i64 a0_0, Value.int IntKind.i64 a0_1, Value.int IntKind.i64 a0_2, Value.int IntKind.i64 a0_3, Value.int IntKind.i64 a0_4, Value.slice (some { block := g1_4, off := 0 }) n0y n0y, Value.int IntKind.i64 a0_5, Value.int IntKind.i64 a0_6, Value.int IntKind.i64 a0_7, Value.int IntKind.i64 a0_8, Value.int IntKind.i64 a0_9, Value.int IntKind.i64 a0_10, Value.int IntKind.i64 a0_11], Value.int IntKind.i64 a1, Value.int IntKind.i64 (fnV n0x z0x n0y z0y a0_0 a0_1 a0_2 a0_3 a0_4 a0_5 a0_6 a0_7 a0_8 a0_9 a0_10 a0_11 a1), Value.int IntKind.i64 (fnV n0x z0x n0y z0y a0_0 a0_1 a0_2 a0_3 a0_4 a0_5 a0_6 a0_7 a0_8 a0_9 a0_10 a0_11 a1), Value.int IntKind.i64 (fnV n0x z0x n0y z0y a0_0 a0_1 a0_2 a0_3 a0_4 a0_5 a0_6 a0_7 a0_8 a0_9 a0_10 a0_11 a1), Value.bool false, f 26, f 27, f 28, f 29, f 30], []⟩ v1 from H _ fun _ _ h => h
    intro K hK
    rcases (by omega : i = 0 ∨ i = 1 ∨ i = 2 ∨ i = 3 ∨ i = 4) with rfl | rfl | rfl | rfl | rfl
    · obtain rfl := Option.some.inj ho
      refine wpOp_plain rfl rfl ?_
      unfold Oper.wp
      go_simp
      exact hK _ _ ⟨⟨⟨updf f 26 (.agg #[.slice (some ⟨g0_4, 0, none⟩) n0x n0x, .int .i64 a0_0, .int .i64 a0_1, .int .i64 a0_2, .int .i64 a0_3, .int .i64 a0_4, .slice (some ⟨g1_4, 0, none⟩) n0y n0y, .int .i64 a0_5, .int .i64 a0_6, .int .i64 a0_7, .int .i64 a0_8, .int .i64 a0_9, .int .i64 a0_10, .int .i64 a0_11]), rfl⟩, hin⟩, rfl, fun j hj hw hu hf => by
          rcases j with _ | _ | _ | _ | _ | j
          · exact absurd rfl hj
          · first | (have h9 : _ = _ := hf; exact h9) | rfl
          · exact hf
          · first | (have h9 : _ = _ := hf; exact h9) | rfl
          · first | (have h9 : _ = _ := hf; exact h9) | rfl
          · exact trivial⟩
    · obtain rfl := Option.some.inj ho
      refine wpOp_plain rfl rfl ?_
      unfold Oper.wp
      go_simp
      exact hK _ _ ⟨⟨⟨updf f 27 (.agg #[.slice A0x n0x c0x, .int .i64 a0_0, .int .i64 a0_1, .int .i64 a0_2, .int .i64 a0_3, .int .i64 a0_4, .slice A0y n0y c0y, .int .i64 a0_5, .int .i64 a0_6, .int .i64 a0_7, .int .i64 a0_8, .int .i64 a0_9, .int .i64 a0_10, .int .i64 a0_11]), rfl⟩, hin⟩, rfl, fun j hj hw hu hf => by
          rcases j with _ | _ | _ | _ | _ | j
          · first | (have h9 : _ = _ := hf; exact h9) | rfl
          · exact absurd rfl hj
          · exact hf
          · first | (have h9 : _ = _ := hf; exact h9) | rfl
          · first | (have h9 : _ = _ := hf; exact h9) | rfl
          · exact trivial⟩
    · obtain rfl := Option.some.inj ho
      have f1 := haf { on := 1, ground := .data } (by simp) rfl rfl
      have f1 : _ = _ := Option.some.inj f1
      refine wpOp_plain rfl rfl ?_
      unfold Oper.wp
      go_simp
      refine (toBakery_w A0x n0x c0x z0x A0y n0y c0y z0y a0_0 a0_1 a0_2 a0_3 a0_4 a0_5 a0_6 a0_7 a0_8 a0_9 a0_10 a0_11 _ (by first | omega | (unfold maxLen; omega)) (by first | omega | (unfold maxLen; omega)) (R0x.out.in_ ((IC.out.trans j_6).trans hin)) (R0y.out.in_ ((IC.out.trans j_6).trans hin))).mono ?_
      rintro _ v2 ⟨g0_2, g1_2, rfl, ho0, hg0, ho1, hg1, hb2⟩
      exact hK _ _ ⟨⟨⟨updf f 28 (.agg #[.slice (some ⟨g0_2, 0, none⟩) n0x n0x, .int .i64 a0_0, .int .i64 a0_1, .int .i64 a0_2, .int .i64 a0_3, .int .i64 a0_4, .slice (some ⟨g1_2, 0, none⟩) n0y n0y, .int .i64 a0_5, .int .i64 a0_6, .int .i64 a0_7, .int .i64 a0_8, .int .i64 a0_9, .int .i64 a0_10, .int .i64 a0_11]), rfl⟩, hin.step hb2⟩, ⟨g0_2, _, g1_2, _, rfl, Nat.le_trans (Nat.le_trans hBl_6 hin.size) hg0, ho0, Nat.le_trans (Nat.le_trans hBl_6 hin.size) hg1, ho1⟩, fun j hj hw hu hf => by
          rcases j with _ | _ | _ | _ | _ | j
          · first | (have h9 : _ = _ := hf; exact h9) | rfl
          · first | (have h9 : _ = _ := hf; exact h9) | rfl
          · exact absurd rfl hj
          · first | (have h9 : _ = _ := hf; exact h9) | rfl
          · first | (have h9 : _ = _ := hf; exact h9) | rfl
          · exact trivial⟩
    · obtain rfl := Option.some.inj ho
      have f0 := haf { on := 0, ground := .data } (by simp) rfl rfl
      have f0 : _ = _ := Option.some.inj f0
      obtain ⟨g0_2, c0_2, g1_2, c1_2, f2, hb20, ho20, hb21, ho21⟩ := haf { on := 2, ground := .data } (by simp) rfl rfl
      have f2 : _ = _ := Option.some.inj f2
      refine wpOp_plain rfl rfl ?_
      unfold Oper.wp
      go_simp
      refine (eqBakery_w (some ⟨g0_4, 0, none⟩) (some ⟨g0_2, 0, none⟩) n0x n0x c0_2 z0x (some ⟨g1_4, 0, none⟩) (some ⟨g1_2, 0, none⟩) n0y n0y c1_2 z0y a0_0 a0_1 a0_2 a0_3 a0_4 a0_5 a0_6 a0_7 a0_8 a0_9 a0_10 a0_11 _ (by first | omega | (unfold maxLen; omega)) (by first | omega | (unfold maxLen; omega)) (ov_X3.reads) (ho20.reads) (ov_X4.reads) (ho21.reads)).mono ?_
      rintro _ v2 ⟨rfl, hb2⟩
      exact hK _ _ ⟨⟨⟨updf f 29 (.bool true), rfl⟩, hin.step hb2⟩, rfl, fun j hj hw hu hf => by
          rcases j with _ | _ | _ | _ | _ | j
          · first | (have h9 : _ = _ := hf; exact h9) | rfl
          · first | (have h9 : _ = _ := hf; exact h9) | rfl
          · exact absurd (hu.symm.trans (show (_ || usesB _ _ _ _) = false by kernel_rfl)) (by decide)
          · exact absurd rfl hj
          · first | (have h9 : _ = _ := hf; exact h9) | rfl
          · exact trivial⟩
    · obtain rfl := Option.some.inj ho
      have f3 := haf { on := 3, ground := .data } (by simp) rfl rfl
      have f3 : _ = _ := Option.some.inj f3
      refine wpOp_plain rfl rfl ?_
      unfold Oper.wp
      go_simp
      exact hK _ _ ⟨⟨⟨updf f 30 (.bool false), rfl⟩, hin⟩, rfl, fun j hj hw hu hf => by
          rcases j with _ | _ | _ | _ | _ | j
          · first | (have h9 : _ = _ := hf; exact h9) | rfl
          · first | (have h9 : _ = _ := hf; exact h9) | rfl
          · exact hf
          · first | (have h9 : _ = _ := hf; exact h9) | rfl
          · exact absurd rfl hj
          · exact trivial⟩
  intro a w_7 hI hF
  obtain ⟨⟨ha, rfl⟩, hn_7⟩ := hI
  have hb_7 := hn_7.below
  have he_7_30 : ha 30 = _ := Option.some.inj (hF 4 (by decide) (by decide))
  clear hF
  rw [he_7_30]
  clear he_7_30
  have j_7 : In w_3.heap.size w_3 w_7 := In.step (by (repeat (first | exact In.refl _ | assumption | apply In.alloc | apply In.drewN | apply In.drew | (refine In.step ?_ (by assumption))))) hb_7
  have k_7_p0 : Blk w_7 (b_p0) 70 #[.slice A0x n0x c0x, .int .i64 a0_0, .int .i64 a0_1, .int .i64 a0_2, .int .i64 a0_3, .int .i64 a0_4, .slice A0y n0y c0y, .int .i64 a0_5, .int .i64 a0_6, .int .i64 a0_7, .int .i64 a0_8, .int .i64 a0_9, .int .i64 a0_10, .int .i64 a0_11] := Blk.step (by (with_reducible (repeat (first | assumption | exact Blk.new' (by simp) | apply Blk.drewN | apply Blk.drew | apply Blk.alloc | (refine Blk.far ?_ (by (try simp) <;> omega) _))))) hb_7
  have c_7_p0_0 : w_7.cell? ⟨b_p0, 0, none⟩ = some (.slice A0x n0x c0x) := k_7_p0.cell 0
  have c_7_p0_1 : w_7.cell? ⟨b_p0, 1, none⟩ = some (.int .i64 a0_0) := k_7_p0.cell 1
  have c_7_p0_2 : w_7.cell? ⟨b_p0, 2, none⟩ = some (.int .i64 a0_1) := k_7_p0.cell 2
  have c_7_p0_3 : w_7.cell? ⟨b_p0, 3, none⟩ = some (.int .i64 a0_2) := k_7_p0.cell 3
  have c_7_p0_4 : w_7.cell? ⟨b_p0, 4, none⟩ = some (.int .i64 a0_3) := k_7_p0.cell 4
  have c_7_p0_5 : w_7.cell? ⟨b_p0, 5, none⟩ = some (.int .i64 a0_4) := k_7_p0.cell 5
  have c_7_p0_6 : w_7.cell? ⟨b_p0, 6, none⟩ = some (.slice A0y n0y c0y) := k_7_p0.cell 6
  have c_7_p0_7 : w_7.cell? ⟨b_p0, 7, none⟩ = some (.int .i64 a0_5) := k_7_p0.cell 7
  have c_7_p0_8 : w_7.cell? ⟨b_p0, 8, none⟩ = some (.int .i64 a0_6) := k_7_p0.cell 8
  have c_7_p0_9 : w_7.cell? ⟨b_p0, 9, none⟩ = some (.int .i64 a0_7) := k_7_p0.cell 9
  have c_7_p0_10 : w_7.cell? ⟨b_p0, 10, none⟩ = some (.int .i64 a0_8) := k_7_p0.cell 10
  have c_7_p0_11 : w_7.cell? ⟨b_p0, 11, none⟩ = some (.int .i64 a0_9) := k_7_p0.cell 11
  have c_7_p0_12 : w_7.cell? ⟨b_p0, 12, none⟩ = some (.int .i64 a0_10) := k_7_p0.cell 12
  have c_7_p0_13 : w_7.cell? ⟨b_p0, 13, none⟩ = some (.int .i64 a0_11) := k_7_p0.cell 13
  have l_7_p0 := k_7_p0.lt
  have k_7_l1 : Blk w_7 (b_l1) 76 #[.slice (some ⟨g0_4, 0, none⟩) n0x n0x, .int .i64 a0_0, .int .i64 a0_1, .int .i64 a0_2, .int .i64 a0_3, .int .i64 a0_4, .slice (some ⟨g1_4, 0, none⟩) n0y n0y, .int .i64 a0_5, .int .i64 a0_6, .int .i64 a0_7, .int .i64 a0_8, .int .i64 a0_9, .int .i64 a0_10, .int .i64 a0_11] := Blk.step (by (with_reducible (repeat (first | assumption | exact Blk.new' (by simp) | apply Blk.drewN | apply Blk.drew | apply Blk.alloc | (refine Blk.far ?_ (by (try simp) <;> omega) _))))) hb_7
  have c_7_l1_0 : w_7.cell? ⟨b_l1, 0, none⟩ = some (.slice (some ⟨g0_4, 0, none⟩) n0x n0x) := k_7_l1.cell 0
  have c_7_l1_1 : w_7.cell? ⟨b_l1, 1, none⟩ = some (.int .i64 a0_0) := k_7_l1.cell 1
  have c_7_l1_2 : w_7.cell? ⟨b_l1, 2, none⟩ = some (.int .i64 a0_1) := k_7_l1.cell 2
  have c_7_l1_3 : w_7.cell? ⟨b_l1, 3, none⟩ = some (.int .i64 a0_2) := k_7_l1.cell 3
  have c_7_l1_4 : w_7.cell? ⟨b_l1, 4, none⟩ = some (.int .i64 a0_3) := k_7_l1.cell 4
  have c_7_l1_5 : w_7.cell? ⟨b_l1, 5, none⟩ = some (.int .i64 a0_4) := k_7_l1.cell 5
  have c_7_l1_6 : w_7.cell? ⟨b_l1, 6, none⟩ = some (.slice (some ⟨g1_4, 0, none⟩) n0y n0y) := k_7_l1.cell 6
  have c_7_l1_7 : w_7.cell? ⟨b_l1, 7, none⟩ = some (.int .i64 a0_5) := k_7_l1.cell 7
  have c_7_l1_8 : w_7.cell? ⟨b_l1, 8, none⟩ = some (.int .i64 a0_6) := k_7_l1.cell 8
  have c_7_l1_9 : w_7.cell? ⟨b_l1, 9, none⟩ = some (.int .i64 a0_7) := k_7_l1.cell 9
  have c_7_l1_10 : w_7.cell? ⟨b_l1, 10, none⟩ = some (.int .i64 a0_8) := k_7_l1.cell 10
  have c_7_l1_11 : w_7.cell? ⟨b_l1, 11, none⟩ = some (.int .i64 a0_9) := k_7_l1.cell 11
  have c_7_l1_12 : w_7.cell? ⟨b_l1, 12, none⟩ = some (.int .i64 a0_10) := k_7_l1.cell 12
  have c_7_l1_13 : w_7.cell? ⟨b_l1, 13, none⟩ = some (.int .i64 a0_11) := k_7_l1.cell 13
  have l_7_l1 := k_7_l1.lt
  have o_7_X3 : OwnC w_7 g0_4 n0x n0x z0x := OwnC.step (by with_reducible (repeat (first | assumption | apply OwnC.drewN | apply OwnC.drew | apply OwnC.alloc))) hb_7
  have o_7_X4 : OCEvent w_7 g1_4 n0y n0y z0y := OCEvent.step (by with_reducible (repeat (first | assumption | apply OCEvent.drewN | apply OCEvent.drew | apply OCEvent.alloc))) hb_7
  clear j_6 k_6_p0 c_6_p0_0 c_6_p0_1 c_6_p0_2 c_6_p0_3 c_6_p0_4 c_6_p0_5 c_6_p0_6 c_6_p0_7 c_6_p0_8 c_6_p0_9 c_6_p0_10 c_6_p0_11 c_6_p0_12 c_6_p0_13 l_6_p0 k_6_l1 c_6_l1_0 c_6_l1_1 c_6_l1_2 c_6_l1_3 c_6_l1_4 c_6_l1_5 c_6_l1_6 c_6_l1_7 c_6_l1_8 c_6_l1_9 c_6_l1_10 c_6_l1_11 c_6_l1_12 c_6_l1_13 l_6_l1 o_6_X3 o_6_X4 hb_6
  clear hn_7
  clear hBl_6 hBg_6
  go_wp2
  go_ret
  exact (show Val _ _ _ _ from Val.mk' rfl (IC.out.trans (by (repeat (first | exact In.refl _ | assumption | apply In.alloc | apply In.drewN | apply In.drew | (refine In.step ?_ (by assumption)))))))
end Go.Proofs.Ytmlemplkbkgjfaa
