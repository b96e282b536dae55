/- The law of DaysIn. -/
import Derived.Test.YtmlemplkbkgjfaaI37
import Derived.Test.YtmlemplkbkgjfaaOpBook
import Derived.Test.YtmlemplkbkgjfaaInv
import Derived.Test.YtmlemplkbkgjfaaOwnC
namespace Go.Proofs.Ytmlemplkbkgjfaa
open Go.ChangeShapes Go.WideShapes Go.ChangeAt Go.RowKit
set_option linter.unusedVariables false
set_option linter.unusedSimpArgs false
def JIDaysIna (w0 : World) (A0 : Option Addr) (n0 : Nat) (c0 : Nat) (z0 : List EventR) (a0_0 : Int) (a0_1 : Int) (a0_2 : Int) (a0_3 : Int) (a0_4 : Int) (a0_5 : Int) (b_p0 : Nat) (g0_2 : Nat) (g0_4 : Nat) (b_l1 : Nat) (a : Act) (w : World) : Prop := (∃ f : Nat → Value, a = ⟨#[Value.agg #[Value.slice A0 n0 c0, Value.int IntKind.i64 a0_0, Value.int IntKind.i64 a0_1, Value.int IntKind.i64 a0_2, Value.int IntKind.i64 a0_3, Value.int IntKind.i64 a0_4, Value.int IntKind.i64 a0_5], Value.pointer (some { block := b_p0, off := 0 }), Value.bool false, Value.int IntKind.i64 (1048576 - ((n0 : Nat) : Int)), Value.int IntKind.i64 (daysV n0 z0 a0_0 a0_1 a0_2 a0_3 a0_4 a0_5), Value.pointer (some { block := b_l1, off := 0 }), Value.int IntKind.i64 (daysV n0 z0 a0_0 a0_1 a0_2 a0_3 a0_4 a0_5), Value.agg #[Value.slice A0 n0 c0, Value.int IntKind.i64 a0_0, Value.int IntKind.i64 a0_1, Value.int IntKind.i64 a0_2, Value.int IntKind.i64 a0_3, Value.int IntKind.i64 a0_4, Value.int IntKind.i64 a0_5], Value.int IntKind.i64 1048576, Value.int IntKind.i64 (1048576 - ((n0 : Nat) : Int)), Value.int IntKind.i64 (1048576 - ((n0 : Nat) : Int)), Value.bool (decide (1048576 - ((n0 : Nat) : Int) < 0)), Value.agg #[Value.slice A0 n0 c0, Value.int IntKind.i64 a0_0, Value.int IntKind.i64 a0_1, Value.int IntKind.i64 a0_2, Value.int IntKind.i64 a0_3, Value.int IntKind.i64 a0_4, Value.int IntKind.i64 a0_5], Value.agg #[Value.slice (some { block := g0_2, off := 0 }) n0 n0, Value.int IntKind.i64 a0_0, Value.int IntKind.i64 a0_1, Value.int IntKind.i64 a0_2, Value.int IntKind.i64 a0_3, Value.int IntKind.i64 a0_4, Value.int IntKind.i64 a0_5], Value.int IntKind.i64 (daysV n0 z0 a0_0 a0_1 a0_2 a0_3 a0_4 a0_5), Value.agg #[Value.slice A0 n0 c0, Value.int IntKind.i64 a0_0, Value.int IntKind.i64 a0_1, Value.int IntKind.i64 a0_2, Value.int IntKind.i64 a0_3, Value.int IntKind.i64 a0_4, Value.int IntKind.i64 a0_5], Value.agg #[Value.slice (some { block := g0_4, off := 0 }) n0 n0, Value.int IntKind.i64 a0_0, Value.int IntKind.i64 a0_1, Value.int IntKind.i64 a0_2, Value.int IntKind.i64 a0_3, Value.int IntKind.i64 a0_4, Value.int IntKind.i64 a0_5], Value.agg #[Value.slice (some { block := g0_4, off := 0 }) n0 n0, Value.int IntKind.i64 a0_0, Value.int IntKind.i64 a0_1, Value.int IntKind.i64 a0_2, Value.int IntKind.i64 a0_3, Value.int IntKind.i64 a0_4, Value.int IntKind.i64 a0_5], Value.int IntKind.i64 (daysV n0 z0 a0_0 a0_1 a0_2 a0_3 a0_4 a0_5), Value.int IntKind.i64 (daysV n0 z0 a0_0 a0_1 a0_2 a0_3 a0_4 a0_5), Value.int IntKind.i64 (daysV n0 z0 a0_0 a0_1 a0_2 a0_3 a0_4 a0_5), Value.bool false, f 22, f 23, f 24, f 25, f 26], []⟩) ∧ In w0.heap.size w0 w
def JFDaysIna (B : Nat) (A0 : Option Addr) (n0 : Nat) (c0 : Nat) (z0 : List EventR) (a0_0 : Int) (a0_1 : Int) (a0_2 : Int) (a0_3 : Int) (a0_4 : Int) (a0_5 : Int) (b_p0 : Nat) (g0_2 : Nat) (g0_4 : Nat) (b_l1 : Nat) : Nat → Act → World → Prop
  | 0, a, w => a.tmps[22]? = some (.agg #[.slice (some ⟨g0_4, 0, none⟩) n0 n0, .int .i64 a0_0, .int .i64 a0_1, .int .i64 a0_2, .int .i64 a0_3, .int .i64 a0_4, .int .i64 a0_5])
  | 1, a, w => a.tmps[23]? = some (.agg #[.slice A0 n0 c0, .int .i64 a0_0, .int .i64 a0_1, .int .i64 a0_2, .int .i64 a0_3, .int .i64 a0_4, .int .i64 a0_5])
  | 2, a, w => ∃ g0 c0, a.tmps[24]? = some (.agg #[.slice (some ⟨g0, 0, none⟩) n0 c0, .int .i64 a0_0, .int .i64 a0_1, .int .i64 a0_2, .int .i64 a0_3, .int .i64 a0_4, .int .i64 a0_5]) ∧ B ≤ g0 ∧ OCEvent w g0 n0 c0 z0
  | 3, a, w => a.tmps[25]? = some (.bool true)
  | 4, a, w => a.tmps[26]? = some (.bool false)
  | _, _, _ => True
set_option maxHeartbeats 4000000 in
theorem walk_FnExactDaysIn (A0 : Option Addr) (n0 c0 : Nat) (z0 : List EventR) (a0_0 : Int) (ua0_0 : (Lit.int .i64 a0_0).wf = true) (a0_1 : Int) (ua0_1 : (Lit.int .i64 a0_1).wf = true) (a0_2 : Int) (ua0_2 : (Lit.int .i64 a0_2).wf = true) (a0_3 : Int) (ua0_3 : (Lit.int .i64 a0_3).wf = true) (a0_4 : Int) (ua0_4 : (Lit.int .i64 a0_4).wf = true) (a0_5 : Int) (ua0_5 : (Lit.int .i64 a0_5).wf = true) (w : World) (m0 : n0 ≤ maxLen) (w0 : ReadsEvent w A0 n0 z0) :
    Calls Try.prog 5 #[.agg #[.slice A0 n0 c0, .int .i64 a0_0, .int .i64 a0_1, .int .i64 a0_2, .int .i64 a0_3, .int .i64 a0_4, .int .i64 a0_5]] w fun e w' => e = .returned (.bool true) ∧ Below w.heap.size w w' := by
  clear ua0_0 ua0_1 ua0_2 ua0_3 ua0_4 ua0_5
  have R0 := Lib.hid w0
  have L0 := w0.1
  clear w0
  have HLL0 := Lib.hid L0
  clear L0
  by_cases g0 : (1048576 : Int) < (n0 : Int)
  · go_enter Try.func5, Try.ntmps5
    go_wp2_with fail
    refine (szBook_w A0 n0 c0 a0_0 a0_1 a0_2 a0_3 a0_4 a0_5 (1048576) _ m0 (by omega) (by omega)).mono ?_
    rintro _ w_1 ⟨rfl, hb_1⟩
    rw [if_pos (by omega)]
    have i_1 : In w.heap.size w w_1 := In.step (by (repeat (first | exact In.refl _ | assumption | apply In.alloc | apply In.drewN | apply In.drew | (refine In.step ?_ (by assumption))))) hb_1
    go_wp2
    go_ret
    exact (show Val _ _ _ _ from Val.mk' rfl (by (repeat (first | exact In.refl _ | assumption | apply In.alloc | apply In.drewN | apply In.drew | (refine In.step ?_ (by assumption))))))
  have g0' : (n0 : Int) ≤ (1048576 : Int) := by omega
  clear g0
  have hm0 : n0 ≤ 1048576 := by omega
  obtain ⟨b_p0, hbx_p0⟩ : ∃ b, b = w.heap.size := ⟨_, rfl⟩
  have kk_p0 : Blk (w.alloc (.cells #[.slice A0 n0 c0, .int .i64 a0_0, .int .i64 a0_1, .int .i64 a0_2, .int .i64 a0_3, .int .i64 a0_4, .int .i64 a0_5] 45)) b_p0 45 #[.slice A0 n0 c0, .int .i64 a0_0, .int .i64 a0_1, .int .i64 a0_2, .int .i64 a0_3, .int .i64 a0_4, .int .i64 a0_5] := (Blk.new' (w := w) (t := 45) (cs := #[.slice A0 n0 c0, .int .i64 a0_0, .int .i64 a0_1, .int .i64 a0_2, .int .i64 a0_3, .int .i64 a0_4, .int .i64 a0_5]) (g := b_p0) (by simp [hbx_p0]))
  have hb_0 : Below w.heap.size w (w.alloc (.cells #[.slice A0 n0 c0, .int .i64 a0_0, .int .i64 a0_1, .int .i64 a0_2, .int .i64 a0_3, .int .i64 a0_4, .int .i64 a0_5] 45)) := by
    have h : In w.heap.size w (w.alloc (.cells #[.slice A0 n0 c0, .int .i64 a0_0, .int .i64 a0_1, .int .i64 a0_2, .int .i64 a0_3, .int .i64 a0_4, .int .i64 a0_5] 45)) := by (repeat (first | exact In.refl _ | assumption | apply In.alloc | apply In.drewN | apply In.drew | (refine In.step ?_ (by assumption))))
    exact h.below
  go_enter Try.func5, Try.ntmps5
  go_wp2_with fail
  rw [← hbx_p0]
  clear hbx_p0
  generalize (w.alloc (.cells #[.slice A0 n0 c0, .int .i64 a0_0, .int .i64 a0_1, .int .i64 a0_2, .int .i64 a0_3, .int .i64 a0_4, .int .i64 a0_5] 45)) = w_0 at *
  have i_0 : In w.heap.size w w_0 := In.step (by (repeat (first | exact In.refl _ | assumption | apply In.alloc | apply In.drewN | apply In.drew | (refine In.step ?_ (by assumption))))) hb_0
  have k_0_p0 : Blk w_0 (b_p0) 45 #[.slice A0 n0 c0, .int .i64 a0_0, .int .i64 a0_1, .int .i64 a0_2, .int .i64 a0_3, .int .i64 a0_4, .int .i64 a0_5] := kk_p0
  have c_0_p0_0 : w_0.cell? ⟨b_p0, 0, none⟩ = some (.slice A0 n0 c0) := k_0_p0.cell 0
  have c_0_p0_1 : w_0.cell? ⟨b_p0, 1, none⟩ = some (.int .i64 a0_0) := k_0_p0.cell 1
  have c_0_p0_2 : w_0.cell? ⟨b_p0, 2, none⟩ = some (.int .i64 a0_1) := k_0_p0.cell 2
  have c_0_p0_3 : w_0.cell? ⟨b_p0, 3, none⟩ = some (.int .i64 a0_2) := k_0_p0.cell 3
  have c_0_p0_4 : w_0.cell? ⟨b_p0, 4, none⟩ = some (.int .i64 a0_3) := k_0_p0.cell 4
  have c_0_p0_5 : w_0.cell? ⟨b_p0, 5, none⟩ = some (.int .i64 a0_4) := k_0_p0.cell 5
  have c_0_p0_6 : w_0.cell? ⟨b_p0, 6, none⟩ = some (.int .i64 a0_5) := k_0_p0.cell 6
  have l_0_p0 := k_0_p0.lt
  clear kk_p0
  go_wp2_with fail
  refine (szBook_w A0 n0 c0 a0_0 a0_1 a0_2 a0_3 a0_4 a0_5 (1048576) _ m0 (by omega) (by omega)).mono ?_
  rintro _ w_1 ⟨rfl, hb_1⟩
  rw [if_neg (by omega)]
  have i_1 : In w.heap.size w w_1 := In.step (by (repeat (first | exact In.refl _ | assumption | apply In.alloc | apply In.drewN | apply In.drew | (refine In.step ?_ (by assumption))))) hb_1
  have k_1_p0 : Blk w_1 (b_p0) 45 #[.slice A0 n0 c0, .int .i64 a0_0, .int .i64 a0_1, .int .i64 a0_2, .int .i64 a0_3, .int .i64 a0_4, .int .i64 a0_5] := Blk.step (by (with_reducible (repeat (first | assumption | exact Blk.new' (by simp) | apply Blk.drewN | apply Blk.drew | apply Blk.alloc | (refine Blk.far ?_ (by (try simp) <;> omega) _))))) hb_1
  have c_1_p0_0 : w_1.cell? ⟨b_p0, 0, none⟩ = some (.slice A0 n0 c0) := k_1_p0.cell 0
  have c_1_p0_1 : w_1.cell? ⟨b_p0, 1, none⟩ = some (.int .i64 a0_0) := k_1_p0.cell 1
  have c_1_p0_2 : w_1.cell? ⟨b_p0, 2, none⟩ = some (.int .i64 a0_1) := k_1_p0.cell 2
  have c_1_p0_3 : w_1.cell? ⟨b_p0, 3, none⟩ = some (.int .i64 a0_2) := k_1_p0.cell 3
  have c_1_p0_4 : w_1.cell? ⟨b_p0, 4, none⟩ = some (.int .i64 a0_3) := k_1_p0.cell 4
  have c_1_p0_5 : w_1.cell? ⟨b_p0, 5, none⟩ = some (.int .i64 a0_4) := k_1_p0.cell 5
  have c_1_p0_6 : w_1.cell? ⟨b_p0, 6, none⟩ = some (.int .i64 a0_5) := k_1_p0.cell 6
  have l_1_p0 := k_1_p0.lt
  clear i_0 k_0_p0 c_0_p0_0 c_0_p0_1 c_0_p0_2 c_0_p0_3 c_0_p0_4 c_0_p0_5 c_0_p0_6 l_0_p0 hb_0
  go_wp2_with fail
  refine (toBook_w A0 n0 c0 z0 a0_0 a0_1 a0_2 a0_3 a0_4 a0_5 _ (by first | omega | (unfold maxLen; omega)) (R0.out.in_ (by (repeat (first | exact In.refl _ | assumption | apply In.alloc | apply In.drewN | apply In.drew | (refine In.step ?_ (by assumption))))))).mono ?_
  rintro _ w_2 ⟨g0_2, rfl, ho0_2, hg0_2, hb_2⟩
  have o_2_X1 : OCEvent w_2 g0_2 n0 n0 z0 := ho0_2
  clear ho0_2 hg0_2
  have i_2 : In w.heap.size w w_2 := In.step (by (repeat (first | exact In.refl _ | assumption | apply In.alloc | apply In.drewN | apply In.drew | (refine In.step ?_ (by assumption))))) hb_2
  have k_2_p0 : Blk w_2 (b_p0) 45 #[.slice A0 n0 c0, .int .i64 a0_0, .int .i64 a0_1, .int .i64 a0_2, .int .i64 a0_3, .int .i64 a0_4, .int .i64 a0_5] := Blk.step (by (with_reducible (repeat (first | assumption | exact Blk.new' (by simp) | apply Blk.drewN | apply Blk.drew | apply Blk.alloc | (refine Blk.far ?_ (by (try simp) <;> omega) _))))) hb_2
  have c_2_p0_0 : w_2.cell? ⟨b_p0, 0, none⟩ = some (.slice A0 n0 c0) := k_2_p0.cell 0
  have c_2_p0_1 : w_2.cell? ⟨b_p0, 1, none⟩ = some (.int .i64 a0_0) := k_2_p0.cell 1
  have c_2_p0_2 : w_2.cell? ⟨b_p0, 2, none⟩ = some (.int .i64 a0_1) := k_2_p0.cell 2
  have c_2_p0_3 : w_2.cell? ⟨b_p0, 3, none⟩ = some (.int .i64 a0_2) := k_2_p0.cell 3
  have c_2_p0_4 : w_2.cell? ⟨b_p0, 4, none⟩ = some (.int .i64 a0_3) := k_2_p0.cell 4
  have c_2_p0_5 : w_2.cell? ⟨b_p0, 5, none⟩ = some (.int .i64 a0_4) := k_2_p0.cell 5
  have c_2_p0_6 : w_2.cell? ⟨b_p0, 6, none⟩ = some (.int .i64 a0_5) := k_2_p0.cell 6
  have l_2_p0 := k_2_p0.lt
  clear i_1 k_1_p0 c_1_p0_0 c_1_p0_1 c_1_p0_2 c_1_p0_3 c_1_p0_4 c_1_p0_5 c_1_p0_6 l_1_p0 hb_1
  go_wp2_with fail
  refine (sDaysIn g0_2 n0 n0 z0 a0_0 a0_1 a0_2 a0_3 a0_4 a0_5 _ (by omega) (OCEvent.reads (by with_reducible (repeat (first | assumption | apply OCEvent.drewN | apply OCEvent.drew | apply OCEvent.alloc))))).mono ?_
  rintro _ w_3 ⟨rfl, hb_3⟩
  have i_3 : In w.heap.size w w_3 := In.step (by (repeat (first | exact In.refl _ | assumption | apply In.alloc | apply In.drewN | apply In.drew | (refine In.step ?_ (by assumption))))) hb_3
  have k_3_p0 : Blk w_3 (b_p0) 45 #[.slice A0 n0 c0, .int .i64 a0_0, .int .i64 a0_1, .int .i64 a0_2, .int .i64 a0_3, .int .i64 a0_4, .int .i64 a0_5] := Blk.step (by (with_reducible (repeat (first | assumption | exact Blk.new' (by simp) | apply Blk.drewN | apply Blk.drew | apply Blk.alloc | (refine Blk.far ?_ (by (try simp) <;> omega) _))))) hb_3
  have c_3_p0_0 : w_3.cell? ⟨b_p0, 0, none⟩ = some (.slice A0 n0 c0) := k_3_p0.cell 0
  have c_3_p0_1 : w_3.cell? ⟨b_p0, 1, none⟩ = some (.int .i64 a0_0) := k_3_p0.cell 1
  have c_3_p0_2 : w_3.cell? ⟨b_p0, 2, none⟩ = some (.int .i64 a0_1) := k_3_p0.cell 2
  have c_3_p0_3 : w_3.cell? ⟨b_p0, 3, none⟩ = some (.int .i64 a0_2) := k_3_p0.cell 3
  have c_3_p0_4 : w_3.cell? ⟨b_p0, 4, none⟩ = some (.int .i64 a0_3) := k_3_p0.cell 4
  have c_3_p0_5 : w_3.cell? ⟨b_p0, 5, none⟩ = some (.int .i64 a0_4) := k_3_p0.cell 5
  have c_3_p0_6 : w_3.cell? ⟨b_p0, 6, none⟩ = some (.int .i64 a0_5) := k_3_p0.cell 6
  have l_3_p0 := k_3_p0.lt
  clear i_2 k_2_p0 c_2_p0_0 c_2_p0_1 c_2_p0_2 c_2_p0_3 c_2_p0_4 c_2_p0_5 c_2_p0_6 l_2_p0 o_2_X1 hb_2
  have IC := Lib.hid i_3
  have j_3 : In w_3.heap.size w_3 w_3 := In.refl _
  go_wp2_with fail
  refine (toBook_w A0 n0 c0 z0 a0_0 a0_1 a0_2 a0_3 a0_4 a0_5 _ (by first | omega | (unfold maxLen; omega)) (R0.out.in_ (IC.out.trans (by (repeat (first | exact In.refl _ | assumption | apply In.alloc | apply In.drewN | apply In.drew | (refine In.step ?_ (by assumption)))))))).mono ?_
  rintro _ w_4 ⟨g0_4, rfl, ho0_4, hg0_4, hb_4⟩
  have GX_X2 : Hid (w_3.heap.size ≤ g0_4) := Lib.hid (by have h1 := hg0_4; (try simp at h1); have h2 := In.size j_3; omega)
  have o_4_X2 : OCEvent w_4 g0_4 n0 n0 z0 := ho0_4
  clear ho0_4 hg0_4
  have j_4 : In w_3.heap.size w_3 w_4 := In.step (by (repeat (first | exact In.refl _ | assumption | apply In.alloc | apply In.drewN | apply In.drew | (refine In.step ?_ (by assumption))))) hb_4
  have k_4_p0 : Blk w_4 (b_p0) 45 #[.slice A0 n0 c0, .int .i64 a0_0, .int .i64 a0_1, .int .i64 a0_2, .int .i64 a0_3, .int .i64 a0_4, .int .i64 a0_5] := Blk.step (by (with_reducible (repeat (first | assumption | exact Blk.new' (by simp) | apply Blk.drewN | apply Blk.drew | apply Blk.alloc | (refine Blk.far ?_ (by (try simp) <;> omega) _))))) hb_4
  have c_4_p0_0 : w_4.cell? ⟨b_p0, 0, none⟩ = some (.slice A0 n0 c0) := k_4_p0.cell 0
  have c_4_p0_1 : w_4.cell? ⟨b_p0, 1, none⟩ = some (.int .i64 a0_0) := k_4_p0.cell 1
  have c_4_p0_2 : w_4.cell? ⟨b_p0, 2, none⟩ = some (.int .i64 a0_1) := k_4_p0.cell 2
  have c_4_p0_3 : w_4.cell? ⟨b_p0, 3, none⟩ = some (.int .i64 a0_2) := k_4_p0.cell 3
  have c_4_p0_4 : w_4.cell? ⟨b_p0, 4, none⟩ = some (.int .i64 a0_3) := k_4_p0.cell 4
  have c_4_p0_5 : w_4.cell? ⟨b_p0, 5, none⟩ = some (.int .i64 a0_4) := k_4_p0.cell 5
  have c_4_p0_6 : w_4.cell? ⟨b_p0, 6, none⟩ = some (.int .i64 a0_5) := k_4_p0.cell 6
  have l_4_p0 := k_4_p0.lt
  clear i_3 k_3_p0 c_3_p0_0 c_3_p0_1 c_3_p0_2 c_3_p0_3 c_3_p0_4 c_3_p0_5 c_3_p0_6 l_3_p0 hb_3 j_3
  go_wp2_with fail
  obtain ⟨b_l1, hbx_l1⟩ : ∃ b, b = w_4.heap.size := ⟨_, rfl⟩
  rw [← hbx_l1]
  have hb_5 : Below w_4.heap.size w_4 (w_4.alloc (.cells #[.slice (some ⟨g0_4, 0, none⟩) n0 n0, .int .i64 a0_0, .int .i64 a0_1, .int .i64 a0_2, .int .i64 a0_3, .int .i64 a0_4, .int .i64 a0_5] 51)) := (Below.refl _ _).alloc (Nat.le_refl _) _
  have kk_5 : Blk (w_4.alloc (.cells #[.slice (some ⟨g0_4, 0, none⟩) n0 n0, .int .i64 a0_0, .int .i64 a0_1, .int .i64 a0_2, .int .i64 a0_3, .int .i64 a0_4, .int .i64 a0_5] 51)) b_l1 51 #[.slice (some ⟨g0_4, 0, none⟩) n0 n0, .int .i64 a0_0, .int .i64 a0_1, .int .i64 a0_2, .int .i64 a0_3, .int .i64 a0_4, .int .i64 a0_5] := Blk.new' hbx_l1
  clear hbx_l1
  generalize (w_4.alloc (.cells #[.slice (some ⟨g0_4, 0, none⟩) n0 n0, .int .i64 a0_0, .int .i64 a0_1, .int .i64 a0_2, .int .i64 a0_3, .int .i64 a0_4, .int .i64 a0_5] 51)) = w_5 at *
  have j_5 : In w_3.heap.size w_3 w_5 := In.step (by (repeat (first | exact In.refl _ | assumption | apply In.alloc | apply In.drewN | apply In.drew | (refine In.step ?_ (by assumption))))) hb_5
  have k_5_p0 : Blk w_5 (b_p0) 45 #[.slice A0 n0 c0, .int .i64 a0_0, .int .i64 a0_1, .int .i64 a0_2, .int .i64 a0_3, .int .i64 a0_4, .int .i64 a0_5] := Blk.step (by (with_reducible (repeat (first | assumption | exact Blk.new' (by simp) | apply Blk.drewN | apply Blk.drew | apply Blk.alloc | (refine Blk.far ?_ (by (try simp) <;> omega) _))))) hb_5
  have c_5_p0_0 : w_5.cell? ⟨b_p0, 0, none⟩ = some (.slice A0 n0 c0) := k_5_p0.cell 0
  have c_5_p0_1 : w_5.cell? ⟨b_p0, 1, none⟩ = some (.int .i64 a0_0) := k_5_p0.cell 1
  have c_5_p0_2 : w_5.cell? ⟨b_p0, 2, none⟩ = some (.int .i64 a0_1) := k_5_p0.cell 2
  have c_5_p0_3 : w_5.cell? ⟨b_p0, 3, none⟩ = some (.int .i64 a0_2) := k_5_p0.cell 3
  have c_5_p0_4 : w_5.cell? ⟨b_p0, 4, none⟩ = some (.int .i64 a0_3) := k_5_p0.cell 4
  have c_5_p0_5 : w_5.cell? ⟨b_p0, 5, none⟩ = some (.int .i64 a0_4) := k_5_p0.cell 5
  have c_5_p0_6 : w_5.cell? ⟨b_p0, 6, none⟩ = some (.int .i64 a0_5) := k_5_p0.cell 6
  have l_5_p0 := k_5_p0.lt
  have k_5_l1 : Blk w_5 (b_l1) 51 #[.slice (some ⟨g0_4, 0, none⟩) n0 n0, .int .i64 a0_0, .int .i64 a0_1, .int .i64 a0_2, .int .i64 a0_3, .int .i64 a0_4, .int .i64 a0_5] := kk_5
  have c_5_l1_0 : w_5.cell? ⟨b_l1, 0, none⟩ = some (.slice (some ⟨g0_4, 0, none⟩) n0 n0) := k_5_l1.cell 0
  have c_5_l1_1 : w_5.cell? ⟨b_l1, 1, none⟩ = some (.int .i64 a0_0) := k_5_l1.cell 1
  have c_5_l1_2 : w_5.cell? ⟨b_l1, 2, none⟩ = some (.int .i64 a0_1) := k_5_l1.cell 2
  have c_5_l1_3 : w_5.cell? ⟨b_l1, 3, none⟩ = some (.int .i64 a0_2) := k_5_l1.cell 3
  have c_5_l1_4 : w_5.cell? ⟨b_l1, 4, none⟩ = some (.int .i64 a0_3) := k_5_l1.cell 4
  have c_5_l1_5 : w_5.cell? ⟨b_l1, 5, none⟩ = some (.int .i64 a0_4) := k_5_l1.cell 5
  have c_5_l1_6 : w_5.cell? ⟨b_l1, 6, none⟩ = some (.int .i64 a0_5) := k_5_l1.cell 6
  have l_5_l1 := k_5_l1.lt
  have o_5_X2 : OCEvent w_5 g0_4 n0 n0 z0 := OCEvent.step (by with_reducible (repeat (first | assumption | apply OCEvent.drewN | apply OCEvent.drew | apply OCEvent.alloc))) hb_5
  clear j_4 k_4_p0 c_4_p0_0 c_4_p0_1 c_4_p0_2 c_4_p0_3 c_4_p0_4 c_4_p0_5 c_4_p0_6 l_4_p0 o_4_X2 hb_4
  clear kk_5
  go_wp2_with fail
  refine (iDaysIn g0_4 n0 n0 z0 a0_0 a0_1 a0_2 a0_3 a0_4 a0_5 _ (by omega) (OCEvent.reads (by with_reducible (repeat (first | assumption | apply OCEvent.drewN | apply OCEvent.drew | apply OCEvent.alloc))))).mono ?_
  rintro _ w_6 ⟨rfl, hb_6⟩
  have j_6 : In w_3.heap.size w_3 w_6 := In.step (by (repeat (first | exact In.refl _ | assumption | apply In.alloc | apply In.drewN | apply In.drew | (refine In.step ?_ (by assumption))))) hb_6
  have k_6_p0 : Blk w_6 (b_p0) 45 #[.slice A0 n0 c0, .int .i64 a0_0, .int .i64 a0_1, .int .i64 a0_2, .int .i64 a0_3, .int .i64 a0_4, .int .i64 a0_5] := Blk.step (by (with_reducible (repeat (first | assumption | exact Blk.new' (by simp) | apply Blk.drewN | apply Blk.drew | apply Blk.alloc | (refine Blk.far ?_ (by (try simp) <;> omega) _))))) hb_6
  have c_6_p0_0 : w_6.cell? ⟨b_p0, 0, none⟩ = some (.slice A0 n0 c0) := k_6_p0.cell 0
  have c_6_p0_1 : w_6.cell? ⟨b_p0, 1, none⟩ = some (.int .i64 a0_0) := k_6_p0.cell 1
  have c_6_p0_2 : w_6.cell? ⟨b_p0, 2, none⟩ = some (.int .i64 a0_1) := k_6_p0.cell 2
  have c_6_p0_3 : w_6.cell? ⟨b_p0, 3, none⟩ = some (.int .i64 a0_2) := k_6_p0.cell 3
  have c_6_p0_4 : w_6.cell? ⟨b_p0, 4, none⟩ = some (.int .i64 a0_3) := k_6_p0.cell 4
  have c_6_p0_5 : w_6.cell? ⟨b_p0, 5, none⟩ = some (.int .i64 a0_4) := k_6_p0.cell 5
  have c_6_p0_6 : w_6.cell? ⟨b_p0, 6, none⟩ = some (.int .i64 a0_5) := k_6_p0.cell 6
  have l_6_p0 := k_6_p0.lt
  have k_6_l1 : Blk w_6 (b_l1) 51 #[.slice (some ⟨g0_4, 0, none⟩) n0 n0, .int .i64 a0_0, .int .i64 a0_1, .int .i64 a0_2, .int .i64 a0_3, .int .i64 a0_4, .int .i64 a0_5] := Blk.step (by (with_reducible (repeat (first | assumption | exact Blk.new' (by simp) | apply Blk.drewN | apply Blk.drew | apply Blk.alloc | (refine Blk.far ?_ (by (try simp) <;> omega) _))))) hb_6
  have c_6_l1_0 : w_6.cell? ⟨b_l1, 0, none⟩ = some (.slice (some ⟨g0_4, 0, none⟩) n0 n0) := k_6_l1.cell 0
  have c_6_l1_1 : w_6.cell? ⟨b_l1, 1, none⟩ = some (.int .i64 a0_0) := k_6_l1.cell 1
  have c_6_l1_2 : w_6.cell? ⟨b_l1, 2, none⟩ = some (.int .i64 a0_1) := k_6_l1.cell 2
  have c_6_l1_3 : w_6.cell? ⟨b_l1, 3, none⟩ = some (.int .i64 a0_2) := k_6_l1.cell 3
  have c_6_l1_4 : w_6.cell? ⟨b_l1, 4, none⟩ = some (.int .i64 a0_3) := k_6_l1.cell 4
  have c_6_l1_5 : w_6.cell? ⟨b_l1, 5, none⟩ = some (.int .i64 a0_4) := k_6_l1.cell 5
  have c_6_l1_6 : w_6.cell? ⟨b_l1, 6, none⟩ = some (.int .i64 a0_5) := k_6_l1.cell 6
  have l_6_l1 := k_6_l1.lt
  have o_6_X2 : OCEvent w_6 g0_4 n0 n0 z0 := OCEvent.step (by with_reducible (repeat (first | assumption | apply OCEvent.drewN | apply OCEvent.drew | apply OCEvent.alloc))) hb_6
  clear j_5 k_5_p0 c_5_p0_0 c_5_p0_1 c_5_p0_2 c_5_p0_3 c_5_p0_4 c_5_p0_5 c_5_p0_6 l_5_p0 k_5_l1 c_5_l1_0 c_5_l1_1 c_5_l1_2 c_5_l1_3 c_5_l1_4 c_5_l1_5 c_5_l1_6 l_5_l1 o_5_X2 hb_5
  go_wp2_with fail
  have hBw_6 : w_6.heap.size ≤ w_6.heap.size := Nat.le_refl _
  obtain ⟨B_6, hB_6⟩ : ∃ B, B = w_6.heap.size := ⟨_, rfl⟩
  have hBl_6 : B_6 ≤ w_6.heap.size := by omega
  have hBg_6 : w_6.heap.size ≤ B_6 := by omega
  clear hBw_6 hB_6
  refine wp_region_facts (JIDaysIna w_6 A0 n0 c0 z0 a0_0 a0_1 a0_2 a0_3 a0_4 a0_5 b_p0 g0_2 g0_4 b_l1) (JFDaysIna B_6 A0 n0 c0 z0 a0_0 a0_1 a0_2 a0_3 a0_4 a0_5 b_p0 g0_2 g0_4 b_l1) (by kernel_rfl) (by kernel_rfl) ⟨⟨fun _ => undef, rfl⟩, (In.refl _).drew⟩ ?_ ?_
  · intro a v1 i o ho hI haf
    obtain ⟨⟨f, rfl⟩, hin⟩ := hI
    have kv_p0 : Blk v1 (b_p0) 45 #[.slice A0 n0 c0, .int .i64 a0_0, .int .i64 a0_1, .int .i64 a0_2, .int .i64 a0_3, .int .i64 a0_4, .int .i64 a0_5] := Blk.step k_6_p0 hin.below
    have cv_p0_0 := kv_p0.cell 0
    have cv_p0_1 := kv_p0.cell 1
    have cv_p0_2 := kv_p0.cell 2
    have cv_p0_3 := kv_p0.cell 3
    have cv_p0_4 := kv_p0.cell 4
    have cv_p0_5 := kv_p0.cell 5
    have cv_p0_6 := kv_p0.cell 6
    have kv_l1 : Blk v1 (b_l1) 51 #[.slice (some ⟨g0_4, 0, none⟩) n0 n0, .int .i64 a0_0, .int .i64 a0_1, .int .i64 a0_2, .int .i64 a0_3, .int .i64 a0_4, .int .i64 a0_5] := Blk.step k_6_l1 hin.below
    have cv_l1_0 := kv_l1.cell 0
    have cv_l1_1 := kv_l1.cell 1
    have cv_l1_2 := kv_l1.cell 2
    have cv_l1_3 := kv_l1.cell 3
    have cv_l1_4 := kv_l1.cell 4
    have cv_l1_5 := kv_l1.cell 5
    have cv_l1_6 := kv_l1.cell 6
    have ov_X2 : OCEvent v1 g0_4 n0 n0 z0 := OCEvent.step o_6_X2 hin.below
    have hi : i < 5 := by
      rcases Nat.lt_or_ge i 5 with h | h
      · exact h
      · simp [h] at ho
    suffices H : ∀ K : Act → World → Prop, (∀ a' w', ((JIDaysIna w_6 A0 n0 c0 z0 a0_0 a0_1 a0_2 a0_3 a0_4 a0_5 b_p0 g0_2 g0_4 b_l1) a' w' ∧ (JFDaysIna B_6 A0 n0 c0 z0 a0_0 a0_1 a0_2 a0_3 a0_4 a0_5 b_p0 g0_2 g0_4 b_l1) i a' w' ∧ ∀ j, j ≠ i → waitsB _ j i = false → (JFDaysIna B_6 A0 n0 c0 z0 a0_0 a0_1 a0_2 a0_3 a0_4 a0_5 b_p0 g0_2 g0_4 b_l1) j ⟨#[Value.agg #[Value.slice A0 n0 c0, Value.int IntKind.i64 a0_0, Value.int IntKind.i64 a0_1, Value.int IntKind.i64 a0_2, Value.int IntKind.i64 a0_3, Value.int IntKind.i64 a0_4, Value.int IntKind.i64 a0_5], Value.pointer (some { block := b_p0, off := 0 }), Value.bool false, Value.int IntKind.i64 (1048576 - ((n0 : Nat) : Int)), Value.int IntKind.i64 (daysV n0 z0 a0_0 a0_1 a0_2 a0_3 a0_4 a0_5), Value.pointer (some { block := b_l1, off := 0 }), Value.int IntKind.i64 (daysV n0 z0 a0_0 a0_1 a0_2 a0_3 a0_4 a0_5), Value.agg #[Value.slice A0 n0 c0, Value.int IntKind.i64 a0_0, Value.int IntKind.i64 a0_1, Value.int IntKind.i64 a0_2, Value.int IntKind.i64 a0_3, Value.int IntKind.i64 a0_4, Value.int IntKind.i64 a0_5], Value.int IntKind.i64 1048576, Value.int IntKind.i64 (1048576 - ((n0 : Nat) : Int)), Value.int IntKind.i64 (1048576 - ((n0 : Nat) : Int)), Value.bool (decide (1048576 - ((n0 : Nat) : Int) < 0)), Value.agg #[Value.slice A0 n0 c0, Value.int IntKind.i64 a0_0, Value.int IntKind.i64 a0_1, Value.int IntKind.i64 a0_2, Value.int IntKind.i64 a0_3, Value.int IntKind.i64 a0_4, Value.int IntKind.i64 a0_5], Value.agg #[Value.slice (some { block := g0_2, off := 0 }) n0 n0, Value.int IntKind.i64 a0_0, Value.int IntKind.i64 a0_1, Value.int IntKind.i64 a0_2, Value.int IntKind.i64 a0_3, Value.int IntKind.i64 a0_4, Value.int IntKind.i64 a0_5], Value.int IntKind.i64 (daysV n0 z0 a0_0 a0_1 a0_2 a0_3 a0_4 a0_5), Value.agg #[Value.slice A0 n0 c0, Value.int IntKind.i64 a0_0, Value.int IntKind.i64 a0_1, Value.int IntKind.i64 a0_2, Value.int IntKind.i64 a0_3, Value.int IntKind.i64 a0_4, Value.int IntKind.i64 a0_5], Value.agg #[Value.slice (some { block := g0_4, off := 0 }) n0 n0, Value.int IntKind.i64 a0_0, Value.int IntKind.i64 a0_1, Value.int IntKind.i64 a0_2, Value.int IntKind.i64 a0_3, Value.int IntKind.i64 a0_4, Value.int IntKind.i64 a0_5], Value.agg #[Value.slice (some { block := g0_4, off := 0 }) n0 n0, Value.int IntKind.i64 a0_0, Value.int IntKind.i64 a0_1, Value.int IntKind.i64 a0_2, Value.int IntKind.i64 a0_3, Value.int IntKind.i64 a0_4, Value.int IntKind.i64 a0_5], Value.int IntKind.i64 (daysV n0 z0 a0_0 a0_1 a0_2 a0_3 a0_4 a0_5), Value.int IntKind.i64 (daysV n0 z0 a0_0 a0_1 a0_2 a0_3 a0_4 a0_5), Value.int IntKind.i64 (daysV n0 z0 a0_0 a0_1 a0_2 a0_3 a0_4 a0_5), Value.bool false, f 22, f 23, f 24, f 25, f 26], []⟩ v1 → (JFDaysIna B_6 A0 n0 c0 z0 a0_0 a0_1 a0_2 a0_3 a0_4 a0_5 b_p0 g0_2 g0_4 b_l1) j a' w') → K a' w') → wpOp _ _ _ i K ⟨#[Value.agg #[Value.slice A0 n0 c0, Value.int IntKind.i64 a0_0, Value.int IntKind.i64 a0_1, Value.int IntKind.i64 a0_2, Value.int IntKind.i64 a0_3, Value.int IntKind.i64 a0_4, Value.int IntKind.i64 a0_5], Value.pointer (some { block := b_p0, off := 0 }), Value.bool false, Value.int IntKind.i64 (1048576 - ((n0 : Nat) : Int)), Value.int IntKind.i64 (daysV n0 z0 a0_0 a0_1 a0_2 a0_3 a0_4 a0_5), Value.pointer (some { block := b_l1, off := 0 }), Value.int IntKind.i64 (daysV n0 z0 a0_0 a0_1 a0_2 a0_3 a0_4 a0_5), Value.agg #[Value.slice A0 n0 c0, Value.int IntKind.i64 a0_0, Value.int IntKind.i64 a0_1, Value.int IntKind.i64 a0_2, Value.int IntKind.i64 a0_3, Value.int IntKind.i64 a0_4, Value.int IntKind.i64 a0_5], Value.int IntKind.i64 1048576, Value.int IntKind.i64 (1048576 - ((n0 : Nat) : Int)), Value.int IntKind.i64 (1048576 - ((n0 : Nat) : Int)), Value.bool (decide (1048576 - ((n0 : Nat) : Int) < 0)), Value.agg #[Value.slice A0 n0 c0, Value.int IntKind.i64 a0_0, Value.int IntKind.i64 a0_1, Value.int IntKind.i64 a0_2, Value.int IntKind.i64 a0_3, Value.int IntKind.i64 a0_4, Value.int IntKind.i64 a0_5], Value.agg #[Value.slice (some { block := g0_2, off := 0 }) n0 n0, Value.int IntKind.i64 a0_0, Value.int IntKind.i64 a0_1, Value.int IntKind.i64 a0_2, Value.int IntKind.i64 a0_3, Value.int IntKind.i64 a0_4, Value.int IntKind.i64 a0_5], Value.int IntKind.i64 (daysV n0 z0 a0_0 a0_1 a0_2 a0_3 a0_4 a0_5), Value.agg #[Value.slice A0 n0 c0, Value.int IntKind.i64 a0_0, Value.int IntKind.i64 a0_1, Value.int IntKind.i64 a0_2, Value.int IntKind.i64 a0_3, Value.int IntKind.i64 a0_4, Value.int IntKind.i64 a0_5], Value.agg #[Value.slice (some { block := g0_4, off := 0 }) n0 n0, Value.int IntKind.i64 a0_0, Value.int IntKind.i64 a0_1, Value.int IntKind.i64 a0_2, Value.int IntKind.i64 a0_3, Value.int IntKind.i64 a0_4, Value.int IntKind.i64 a0_5], Value.agg #[Value.slice (some { block := g0_4, off := 0 }) n0 n0, Value.int IntKind.i64 a0_0, Value.int IntKind.i64 a0_1, Value.int IntKind.i64 a0_2, Value.int IntKind.i64 a0_3, Value.int IntKind.i64 a0_4, Value.int IntKind.i64 a0_5], Value.int IntKind.i64 (daysV n0 z0 a0_0 a0_1 a0_2 a0_3 a0_4 a0_5), Value.int IntKind.i64 (daysV n0 z0 a0_0 a0_1 a0_2 a0_3 a0_4 a0_5), Value.int IntKind.i64 (daysV n0 z0 a0_0 a0_1 a0_2 a0_3 a0_4 a0_5), Value.bool false, f 22, f 23, f 24, f 25, f 26], []⟩ v1 from H _ fun _ _ h => h
    intro K hK
    rcases (by omega : i = 0 ∨ i = 1 ∨ i = 2 ∨ i = 3 ∨ i = 4) with rfl | rfl | rfl | rfl | rfl
    · obtain rfl := Option.some.inj ho
      refine wpOp_plain rfl rfl ?_
      unfold Oper.wp
      go_simp
      exact hK _ _ ⟨⟨⟨updf f 22 (.agg #[.slice (some ⟨g0_4, 0, none⟩) n0 n0, .int .i64 a0_0, .int .i64 a0_1, .int .i64 a0_2, .int .i64 a0_3, .int .i64 a0_4, .int .i64 a0_5]), rfl⟩, hin⟩, rfl, fun j hj hw hf => by
          rcases j with _ | _ | _ | _ | _ | j
          all_goals first | exact absurd rfl hj | exact hf | rfl⟩
    · obtain rfl := Option.some.inj ho
      refine wpOp_plain rfl rfl ?_
      unfold Oper.wp
      go_simp
      exact hK _ _ ⟨⟨⟨updf f 23 (.agg #[.slice A0 n0 c0, .int .i64 a0_0, .int .i64 a0_1, .int .i64 a0_2, .int .i64 a0_3, .int .i64 a0_4, .int .i64 a0_5]), rfl⟩, hin⟩, rfl, fun j hj hw hf => by
          rcases j with _ | _ | _ | _ | _ | j
          all_goals first | exact absurd rfl hj | exact hf | rfl⟩
    · obtain rfl := Option.some.inj ho
      have f1 := haf { on := 1, ground := .data } (by simp) rfl
      have f1 : _ = _ := Option.some.inj f1
      refine wpOp_plain rfl rfl ?_
      unfold Oper.wp
      go_simp
      refine (toBook_w A0 n0 c0 z0 a0_0 a0_1 a0_2 a0_3 a0_4 a0_5 _ (by first | omega | (unfold maxLen; omega)) (R0.out.in_ ((IC.out.trans j_6).trans hin))).mono ?_
      rintro _ v2 ⟨g0_2, rfl, ho0, hg0, hb2⟩
      exact hK _ _ ⟨⟨⟨updf f 24 (.agg #[.slice (some ⟨g0_2, 0, none⟩) n0 n0, .int .i64 a0_0, .int .i64 a0_1, .int .i64 a0_2, .int .i64 a0_3, .int .i64 a0_4, .int .i64 a0_5]), rfl⟩, hin.step hb2⟩, ⟨g0_2, _, rfl, Nat.le_trans (Nat.le_trans hBl_6 hin.size) hg0, ho0⟩, fun j hj hw hf => by
          rcases j with _ | _ | _ | _ | _ | j
          all_goals first | exact absurd rfl hj | (obtain ⟨g0, c0, h0, b0, o0⟩ := hf; exact ⟨g0, c0, h0, b0, o0.step hb2⟩) | exact hf | rfl⟩
    · obtain rfl := Option.some.inj ho
      have f0 := haf { on := 0, ground := .data } (by simp) rfl
      have f0 : _ = _ := Option.some.inj f0
      obtain ⟨g0_2, c0_2, f2, hb20, ho20⟩ := haf { on := 2, ground := .data } (by simp) rfl
      have f2 : _ = _ := Option.some.inj f2
      refine wpOp_plain rfl rfl ?_
      unfold Oper.wp
      go_simp
      refine (eqBook_w (some ⟨g0_4, 0, none⟩) (some ⟨g0_2, 0, none⟩) n0 n0 c0_2 z0 a0_0 a0_1 a0_2 a0_3 a0_4 a0_5 _ (by first | omega | (unfold maxLen; omega)) (ov_X2.reads) (ho20.reads)).mono ?_
      rintro _ v2 ⟨rfl, hb2⟩
      exact hK _ _ ⟨⟨⟨updf f 25 (.bool true), rfl⟩, hin.step hb2⟩, rfl, fun j hj hw hf => by
          rcases j with _ | _ | _ | _ | _ | j
          all_goals first | exact absurd rfl hj | (obtain ⟨g0, c0, h0, b0, o0⟩ := hf; exact ⟨g0, c0, h0, b0, o0.step hb2⟩) | exact hf | rfl⟩
    · obtain rfl := Option.some.inj ho
      have f3 := haf { on := 3, ground := .data } (by simp) rfl
      have f3 : _ = _ := Option.some.inj f3
      refine wpOp_plain rfl rfl ?_
      unfold Oper.wp
      go_simp
      exact hK _ _ ⟨⟨⟨updf f 26 (.bool false), rfl⟩, hin⟩, rfl, fun j hj hw hf => by
          rcases j with _ | _ | _ | _ | _ | j
          all_goals first | exact absurd rfl hj | exact hf | rfl⟩
  intro a w_7 hI hF
  obtain ⟨⟨ha, rfl⟩, hn_7⟩ := hI
  have hb_7 := hn_7.below
  have he_7_26 : ha 26 = _ := Option.some.inj (hF 4 (by decide))
  clear hF
  rw [he_7_26]
  clear he_7_26
  have j_7 : In w_3.heap.size w_3 w_7 := In.step (by (repeat (first | exact In.refl _ | assumption | apply In.alloc | apply In.drewN | apply In.drew | (refine In.step ?_ (by assumption))))) hb_7
  have k_7_p0 : Blk w_7 (b_p0) 45 #[.slice A0 n0 c0, .int .i64 a0_0, .int .i64 a0_1, .int .i64 a0_2, .int .i64 a0_3, .int .i64 a0_4, .int .i64 a0_5] := Blk.step (by (with_reducible (repeat (first | assumption | exact Blk.new' (by simp) | apply Blk.drewN | apply Blk.drew | apply Blk.alloc | (refine Blk.far ?_ (by (try simp) <;> omega) _))))) hb_7
  have c_7_p0_0 : w_7.cell? ⟨b_p0, 0, none⟩ = some (.slice A0 n0 c0) := k_7_p0.cell 0
  have c_7_p0_1 : w_7.cell? ⟨b_p0, 1, none⟩ = some (.int .i64 a0_0) := k_7_p0.cell 1
  have c_7_p0_2 : w_7.cell? ⟨b_p0, 2, none⟩ = some (.int .i64 a0_1) := k_7_p0.cell 2
  have c_7_p0_3 : w_7.cell? ⟨b_p0, 3, none⟩ = some (.int .i64 a0_2) := k_7_p0.cell 3
  have c_7_p0_4 : w_7.cell? ⟨b_p0, 4, none⟩ = some (.int .i64 a0_3) := k_7_p0.cell 4
  have c_7_p0_5 : w_7.cell? ⟨b_p0, 5, none⟩ = some (.int .i64 a0_4) := k_7_p0.cell 5
  have c_7_p0_6 : w_7.cell? ⟨b_p0, 6, none⟩ = some (.int .i64 a0_5) := k_7_p0.cell 6
  have l_7_p0 := k_7_p0.lt
  have k_7_l1 : Blk w_7 (b_l1) 51 #[.slice (some ⟨g0_4, 0, none⟩) n0 n0, .int .i64 a0_0, .int .i64 a0_1, .int .i64 a0_2, .int .i64 a0_3, .int .i64 a0_4, .int .i64 a0_5] := Blk.step (by (with_reducible (repeat (first | assumption | exact Blk.new' (by simp) | apply Blk.drewN | apply Blk.drew | apply Blk.alloc | (refine Blk.far ?_ (by (try simp) <;> omega) _))))) hb_7
  have c_7_l1_0 : w_7.cell? ⟨b_l1, 0, none⟩ = some (.slice (some ⟨g0_4, 0, none⟩) n0 n0) := k_7_l1.cell 0
  have c_7_l1_1 : w_7.cell? ⟨b_l1, 1, none⟩ = some (.int .i64 a0_0) := k_7_l1.cell 1
  have c_7_l1_2 : w_7.cell? ⟨b_l1, 2, none⟩ = some (.int .i64 a0_1) := k_7_l1.cell 2
  have c_7_l1_3 : w_7.cell? ⟨b_l1, 3, none⟩ = some (.int .i64 a0_2) := k_7_l1.cell 3
  have c_7_l1_4 : w_7.cell? ⟨b_l1, 4, none⟩ = some (.int .i64 a0_3) := k_7_l1.cell 4
  have c_7_l1_5 : w_7.cell? ⟨b_l1, 5, none⟩ = some (.int .i64 a0_4) := k_7_l1.cell 5
  have c_7_l1_6 : w_7.cell? ⟨b_l1, 6, none⟩ = some (.int .i64 a0_5) := k_7_l1.cell 6
  have l_7_l1 := k_7_l1.lt
  have o_7_X2 : OCEvent w_7 g0_4 n0 n0 z0 := OCEvent.step (by with_reducible (repeat (first | assumption | apply OCEvent.drewN | apply OCEvent.drew | apply OCEvent.alloc))) hb_7
  clear j_6 k_6_p0 c_6_p0_0 c_6_p0_1 c_6_p0_2 c_6_p0_3 c_6_p0_4 c_6_p0_5 c_6_p0_6 l_6_p0 k_6_l1 c_6_l1_0 c_6_l1_1 c_6_l1_2 c_6_l1_3 c_6_l1_4 c_6_l1_5 c_6_l1_6 l_6_l1 o_6_X2 hb_6
  clear hn_7
  clear hBl_6 hBg_6
  go_wp2
  go_ret
  exact (show Val _ _ _ _ from Val.mk' rfl (IC.out.trans (by (repeat (first | exact In.refl _ | assumption | apply In.alloc | apply In.drewN | apply In.drew | (refine In.step ?_ (by assumption)))))))
end Go.Proofs.Ytmlemplkbkgjfaa
