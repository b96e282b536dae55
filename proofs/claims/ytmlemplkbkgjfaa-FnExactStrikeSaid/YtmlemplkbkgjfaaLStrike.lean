/- The law of Strike. -/
import Derived.Test.YtmlemplkbkgjfaaEi37
import Derived.Test.YtmlemplkbkgjfaaOpBook
import Derived.Test.YtmlemplkbkgjfaaInv
import Derived.Test.YtmlemplkbkgjfaaOwnC
namespace Go.Proofs.Ytmlemplkbkgjfaa
open Go.ChangeShapes Go.WideShapes Go.ChangeAt Go.RowKit
set_option linter.unusedVariables false
set_option linter.unusedSimpArgs false
def JIStrikea (w0 : World) (zs0 : List EventR) (r0 : Int) (r1 : Int) (r2 : Int) (r3 : Int) (r4 : Int) (r5 : Int) (f0v : Bool) (A0 : Option Addr) (n0 : Nat) (c0 : Nat) (z0 : List EventR) (a0_0 : Int) (a0_1 : Int) (a0_2 : Int) (a0_3 : Int) (a0_4 : Int) (a0_5 : Int) (b_p0 : Nat) (g0_2 : Nat) (c0_3 : Nat) (g0_3 : Nat) (b_l1 : Nat) (g0_5 : Nat) (b_l2 : Nat) (c0_7 : Nat) (g0_7 : Nat) (b_l3 : Nat) (a : Act) (w : World) : Prop := (∃ f : Nat → Value, a = ⟨#[Value.agg #[Value.slice A0 n0 c0, Value.int IntKind.i64 a0_0, Value.int IntKind.i64 a0_1, Value.int IntKind.i64 a0_2, Value.int IntKind.i64 a0_3, Value.int IntKind.i64 a0_4, Value.int IntKind.i64 a0_5], Value.pointer (some { block := b_p0, off := 0 }), Value.bool false, Value.int IntKind.i64 (1048576 - ((n0 : Nat) : Int)), Value.pointer (some { block := b_l1, off := 0 }), Value.bool f0v, Value.pointer (some { block := b_l2, off := 0 }), Value.pointer (some { block := b_l3, off := 0 }), Value.bool f0v, undef, undef, undef, undef, undef, Value.agg #[Value.slice A0 n0 c0, Value.int IntKind.i64 a0_0, Value.int IntKind.i64 a0_1, Value.int IntKind.i64 a0_2, Value.int IntKind.i64 a0_3, Value.int IntKind.i64 a0_4, Value.int IntKind.i64 a0_5], Value.int IntKind.i64 1048576, Value.int IntKind.i64 (1048576 - ((n0 : Nat) : Int)), Value.int IntKind.i64 (1048576 - ((n0 : Nat) : Int)), Value.bool (decide (1048576 - ((n0 : Nat) : Int) < 0)), Value.tuple #[Value.agg #[Value.slice (some { block := g0_3, off := 0 }) zs0.length c0_3, Value.int IntKind.i64 r0, Value.int IntKind.i64 r1, Value.int IntKind.i64 r2, Value.int IntKind.i64 r3, Value.int IntKind.i64 r4, Value.int IntKind.i64 r5], Value.bool f0v], Value.agg #[Value.slice A0 n0 c0, Value.int IntKind.i64 a0_0, Value.int IntKind.i64 a0_1, Value.int IntKind.i64 a0_2, Value.int IntKind.i64 a0_3, Value.int IntKind.i64 a0_4, Value.int IntKind.i64 a0_5], Value.agg #[Value.slice (some { block := g0_2, off := 0 }) n0 n0, Value.int IntKind.i64 a0_0, Value.int IntKind.i64 a0_1, Value.int IntKind.i64 a0_2, Value.int IntKind.i64 a0_3, Value.int IntKind.i64 a0_4, Value.int IntKind.i64 a0_5], Value.tuple #[Value.agg #[Value.slice (some { block := g0_3, off := 0 }) zs0.length c0_3, Value.int IntKind.i64 r0, Value.int IntKind.i64 r1, Value.int IntKind.i64 r2, Value.int IntKind.i64 r3, Value.int IntKind.i64 r4, Value.int IntKind.i64 r5], Value.bool f0v], Value.agg #[Value.slice (some { block := g0_3, off := 0 }) zs0.length c0_3, Value.int IntKind.i64 r0, Value.int IntKind.i64 r1, Value.int IntKind.i64 r2, Value.int IntKind.i64 r3, Value.int IntKind.i64 r4, Value.int IntKind.i64 r5], Value.bool f0v, Value.agg #[Value.slice A0 n0 c0, Value.int IntKind.i64 a0_0, Value.int IntKind.i64 a0_1, Value.int IntKind.i64 a0_2, Value.int IntKind.i64 a0_3, Value.int IntKind.i64 a0_4, Value.int IntKind.i64 a0_5], Value.agg #[Value.slice (some { block := g0_5, off := 0 }) n0 n0, Value.int IntKind.i64 a0_0, Value.int IntKind.i64 a0_1, Value.int IntKind.i64 a0_2, Value.int IntKind.i64 a0_3, Value.int IntKind.i64 a0_4, Value.int IntKind.i64 a0_5], Value.tuple #[Value.agg #[Value.slice (some { block := g0_7, off := 0 }) zs0.length c0_7, Value.int IntKind.i64 r0, Value.int IntKind.i64 r1, Value.int IntKind.i64 r2, Value.int IntKind.i64 r3, Value.int IntKind.i64 r4, Value.int IntKind.i64 r5], Value.bool f0v], Value.agg #[Value.slice (some { block := g0_5, off := 0 }) n0 n0, Value.int IntKind.i64 a0_0, Value.int IntKind.i64 a0_1, Value.int IntKind.i64 a0_2, Value.int IntKind.i64 a0_3, Value.int IntKind.i64 a0_4, Value.int IntKind.i64 a0_5], Value.tuple #[Value.agg #[Value.slice (some { block := g0_7, off := 0 }) zs0.length c0_7, Value.int IntKind.i64 r0, Value.int IntKind.i64 r1, Value.int IntKind.i64 r2, Value.int IntKind.i64 r3, Value.int IntKind.i64 r4, Value.int IntKind.i64 r5], Value.bool f0v], Value.agg #[Value.slice (some { block := g0_7, off := 0 }) zs0.length c0_7, Value.int IntKind.i64 r0, Value.int IntKind.i64 r1, Value.int IntKind.i64 r2, Value.int IntKind.i64 r3, Value.int IntKind.i64 r4, Value.int IntKind.i64 r5], Value.bool f0v, Value.agg #[Value.slice (some { block := g0_7, off := 0 }) zs0.length c0_7, Value.int IntKind.i64 r0, Value.int IntKind.i64 r1, Value.int IntKind.i64 r2, Value.int IntKind.i64 r3, Value.int IntKind.i64 r4, Value.int IntKind.i64 r5], Value.agg #[Value.slice (some { block := g0_3, off := 0 }) zs0.length c0_3, Value.int IntKind.i64 r0, Value.int IntKind.i64 r1, Value.int IntKind.i64 r2, Value.int IntKind.i64 r3, Value.int IntKind.i64 r4, Value.int IntKind.i64 r5], Value.bool true, Value.bool false, Value.bool false, Value.bool f0v, Value.bool f0v, Value.bool false, Value.bool false, f 41, f 42, f 43, f 44, f 45, undef, undef, undef, undef, undef, undef, undef, undef, undef, undef, undef, undef, undef, undef, undef, undef, undef, undef, undef, undef, undef, undef, undef, undef, undef, undef, undef, undef, undef, undef, undef, undef, undef, undef, undef, undef, undef, undef, undef, undef, undef, undef, undef, undef, undef, undef, undef, undef, undef, undef], []⟩) ∧ In w0.heap.size w0 w
def JFStrikea (B : Nat) (zs0 : List EventR) (r0 : Int) (r1 : Int) (r2 : Int) (r3 : Int) (r4 : Int) (r5 : Int) (f0v : Bool) (A0 : Option Addr) (n0 : Nat) (c0 : Nat) (z0 : List EventR) (a0_0 : Int) (a0_1 : Int) (a0_2 : Int) (a0_3 : Int) (a0_4 : Int) (a0_5 : Int) (b_p0 : Nat) (g0_2 : Nat) (c0_3 : Nat) (g0_3 : Nat) (b_l1 : Nat) (g0_5 : Nat) (b_l2 : Nat) (c0_7 : Nat) (g0_7 : Nat) (b_l3 : Nat) : Nat → Act → World → Prop
  | 0, a, w => a.tmps[41]? = some (.agg #[.slice (some ⟨g0_5, 0, none⟩) n0 n0, .int .i64 a0_0, .int .i64 a0_1, .int .i64 a0_2, .int .i64 a0_3, .int .i64 a0_4, .int .i64 a0_5])
  | 1, a, w => a.tmps[42]? = some (.agg #[.slice A0 n0 c0, .int .i64 a0_0, .int .i64 a0_1, .int .i64 a0_2, .int .i64 a0_3, .int .i64 a0_4, .int .i64 a0_5])
  | 2, a, w => ∃ g0 c0, a.tmps[43]? = some (.agg #[.slice (some ⟨g0, 0, none⟩) n0 c0, .int .i64 a0_0, .int .i64 a0_1, .int .i64 a0_2, .int .i64 a0_3, .int .i64 a0_4, .int .i64 a0_5]) ∧ B ≤ g0 ∧ OCEvent w g0 n0 c0 z0
  | 3, a, w => a.tmps[44]? = some (.bool true)
  | 4, a, w => a.tmps[45]? = some (.bool false)
  | _, _, _ => True
set_option maxHeartbeats 4000000 in
theorem walk_FnExactStrike (A0 : Option Addr) (n0 c0 : Nat) (z0 : List EventR) (a0_0 : Int) (ua0_0 : (Lit.int .i64 a0_0).wf = true) (a0_1 : Int) (ua0_1 : (Lit.int .i64 a0_1).wf = true) (a0_2 : Int) (ua0_2 : (Lit.int .i64 a0_2).wf = true) (a0_3 : Int) (ua0_3 : (Lit.int .i64 a0_3).wf = true) (a0_4 : Int) (ua0_4 : (Lit.int .i64 a0_4).wf = true) (a0_5 : Int) (ua0_5 : (Lit.int .i64 a0_5).wf = true) (w : World) (m0 : n0 ≤ maxLen) (w0 : ReadsEvent w A0 n0 z0) :
    Calls Try.prog 7 #[.agg #[.slice A0 n0 c0, .int .i64 a0_0, .int .i64 a0_1, .int .i64 a0_2, .int .i64 a0_3, .int .i64 a0_4, .int .i64 a0_5]] w fun e w' => e = .returned (.bool true) ∧ Below w.heap.size w w' := by
  clear ua0_0 ua0_1 ua0_2 ua0_3 ua0_4 ua0_5
  have R0 := Lib.hid w0
  have L0 := w0.1
  clear w0
  have HLL0 := Lib.hid L0
  clear L0
  by_cases g0 : (1048576 : Int) < (n0 : Int)
  · go_enter Try.func7, Try.ntmps7
    go_wp2_with fail
    refine (szBook_w A0 n0 c0 a0_0 a0_1 a0_2 a0_3 a0_4 a0_5 (1048576) _ m0 (by omega) (by omega)).mono ?_
    rintro _ w_1 ⟨rfl, hb_1⟩
    rw [if_pos (by omega)]
    have i_1 : In w.heap.size w w_1 := In.step (by (repeat (first | exact In.refl _ | assumption | apply In.alloc | apply In.drewN | apply In.drew | (refine In.step ?_ (by assumption))))) hb_1
    go_wp2
    go_ret
    exact (show Val _ _ _ _ from Val.mk' rfl (by (repeat (first | exact In.refl _ | assumption | apply In.alloc | apply In.drewN | apply In.drew | (refine In.step ?_ (by assumption))))))
  have g0' : (n0 : Int) ≤ (1048576 : Int) := by omega
  clear g0
  have hm0 : n0 ≤ 1048576 := by omega
  obtain ⟨zs0, hzs0⟩ : ∃ x, skL n0 z0 a0_0 a0_1 a0_2 a0_3 a0_4 a0_5 = x := ⟨_, rfl⟩
  have hzl : zs0.length ≤ 1048576 := by rw [← hzs0]; have h := skL_len (a := a0_0) (b := a0_1) (c := a0_2) (d := a0_3) (e := a0_4) (f := a0_5) R0.out.1; omega
  obtain ⟨s9, hss9⟩ : ∃ x, skS n0 z0 a0_0 a0_1 a0_2 a0_3 a0_4 a0_5 = x := ⟨_, rfl⟩
  obtain ⟨r0, r1, r2, r3, r4, r5⟩ := s9
  obtain ⟨f0v, hfv9⟩ : ∃ x, skB n0 z0 a0_0 a0_1 a0_2 a0_3 a0_4 a0_5 = x := ⟨_, rfl⟩
  have HsC : Hid (∀ (g : Nat) (W : World), ReadsEvent W (some ⟨g, 0, none⟩) n0 z0 → Calls Try.prog 40 #[.agg #[.slice (some ⟨g, 0, none⟩) n0 n0, .int .i64 a0_0, .int .i64 a0_1, .int .i64 a0_2, .int .i64 a0_3, .int .i64 a0_4, .int .i64 a0_5]] W (fun e w' => ∃ g c, e = .returned (.tuple #[.agg #[.slice (some ⟨g, 0, none⟩) zs0.length c, .int .i64 r0, .int .i64 r1, .int .i64 r2, .int .i64 r3, .int .i64 r4, .int .i64 r5], .bool f0v]) ∧ OCEvent w' g zs0.length c zs0 ∧ W.heap.size ≤ g ∧ Below W.heap.size W w')) := Lib.hid (fun g W h => by
    have h9 := sStrike g n0 n0 z0 a0_0 a0_1 a0_2 a0_3 a0_4 a0_5 W (by omega) (Nat.le_refl _) h
    rw [hzs0, hss9, hfv9] at h9
    exact h9)
  have HiC : Hid (∀ (g : Nat) (W : World), ReadsEvent W (some ⟨g, 0, none⟩) n0 z0 → Calls Try.prog 41 #[.agg #[.slice (some ⟨g, 0, none⟩) n0 n0, .int .i64 a0_0, .int .i64 a0_1, .int .i64 a0_2, .int .i64 a0_3, .int .i64 a0_4, .int .i64 a0_5]] W (fun e w' => ∃ g c, e = .returned (.tuple #[.agg #[.slice (some ⟨g, 0, none⟩) zs0.length c, .int .i64 r0, .int .i64 r1, .int .i64 r2, .int .i64 r3, .int .i64 r4, .int .i64 r5], .bool f0v]) ∧ OCEvent w' g zs0.length c zs0 ∧ W.heap.size ≤ g ∧ Below W.heap.size W w')) := Lib.hid (fun g W h => by
    have h9 := iStrike g n0 n0 z0 a0_0 a0_1 a0_2 a0_3 a0_4 a0_5 W (by omega) (Nat.le_refl _) h
    rw [hzs0, hss9, hfv9] at h9
    exact h9)
  clear hzs0 hss9 hfv9
  obtain ⟨b_p0, hbx_p0⟩ : ∃ b, b = w.heap.size := ⟨_, rfl⟩
  have kk_p0 : Blk (w.alloc (.cells #[.slice A0 n0 c0, .int .i64 a0_0, .int .i64 a0_1, .int .i64 a0_2, .int .i64 a0_3, .int .i64 a0_4, .int .i64 a0_5] 45)) b_p0 45 #[.slice A0 n0 c0, .int .i64 a0_0, .int .i64 a0_1, .int .i64 a0_2, .int .i64 a0_3, .int .i64 a0_4, .int .i64 a0_5] := (Blk.new' (w := w) (t := 45) (cs := #[.slice A0 n0 c0, .int .i64 a0_0, .int .i64 a0_1, .int .i64 a0_2, .int .i64 a0_3, .int .i64 a0_4, .int .i64 a0_5]) (g := b_p0) (by simp [hbx_p0]))
  have hb_0 : Below w.heap.size w (w.alloc (.cells #[.slice A0 n0 c0, .int .i64 a0_0, .int .i64 a0_1, .int .i64 a0_2, .int .i64 a0_3, .int .i64 a0_4, .int .i64 a0_5] 45)) := by
    have h : In w.heap.size w (w.alloc (.cells #[.slice A0 n0 c0, .int .i64 a0_0, .int .i64 a0_1, .int .i64 a0_2, .int .i64 a0_3, .int .i64 a0_4, .int .i64 a0_5] 45)) := by (repeat (first | exact In.refl _ | assumption | apply In.alloc | apply In.drewN | apply In.drew | (refine In.step ?_ (by assumption))))
    exact h.below
  go_enter Try.func7, Try.ntmps7
  go_wp2_with fail
  rw [← hbx_p0]
  clear hbx_p0
  generalize (w.alloc (.cells #[.slice A0 n0 c0, .int .i64 a0_0, .int .i64 a0_1, .int .i64 a0_2, .int .i64 a0_3, .int .i64 a0_4, .int .i64 a0_5] 45)) = w_0 at *
  have i_0 : In w.heap.size w w_0 := In.step (by (repeat (first | exact In.refl _ | assumption | apply In.alloc | apply In.drewN | apply In.drew | (refine In.step ?_ (by assumption))))) hb_0
  have k_0_p0 : Blk w_0 (b_p0) 45 #[.slice A0 n0 c0, .int .i64 a0_0, .int .i64 a0_1, .int .i64 a0_2, .int .i64 a0_3, .int .i64 a0_4, .int .i64 a0_5] := kk_p0
  have c_0_p0_0 : w_0.cell? ⟨b_p0, 0, none⟩ = some (.slice A0 n0 c0) := k_0_p0.cell 0
  have c_0_p0_1 : w_0.cell? ⟨b_p0, 1, none⟩ = some (.int .i64 a0_0) := k_0_p0.cell 1
  have c_0_p0_2 : w_0.cell? ⟨b_p0, 2, none⟩ = some (.int .i64 a0_1) := k_0_p0.cell 2
  have c_0_p0_3 : w_0.cell? ⟨b_p0, 3, none⟩ = some (.int .i64 a0_2) := k_0_p0.cell 3
  have c_0_p0_4 : w_0.cell? ⟨b_p0, 4, none⟩ = some (.int .i64 a0_3) := k_0_p0.cell 4
  have c_0_p0_5 : w_0.cell? ⟨b_p0, 5, none⟩ = some (.int .i64 a0_4) := k_0_p0.cell 5
  have c_0_p0_6 : w_0.cell? ⟨b_p0, 6, none⟩ = some (.int .i64 a0_5) := k_0_p0.cell 6
  have l_0_p0 := k_0_p0.lt
  clear kk_p0
  go_wp2_with fail
  refine (szBook_w A0 n0 c0 a0_0 a0_1 a0_2 a0_3 a0_4 a0_5 (1048576) _ m0 (by omega) (by omega)).mono ?_
  rintro _ w_1 ⟨rfl, hb_1⟩
  rw [if_neg (by omega)]
  have i_1 : In w.heap.size w w_1 := In.step (by (repeat (first | exact In.refl _ | assumption | apply In.alloc | apply In.drewN | apply In.drew | (refine In.step ?_ (by assumption))))) hb_1
  have k_1_p0 : Blk w_1 (b_p0) 45 #[.slice A0 n0 c0, .int .i64 a0_0, .int .i64 a0_1, .int .i64 a0_2, .int .i64 a0_3, .int .i64 a0_4, .int .i64 a0_5] := Blk.step (by (with_reducible (repeat (first | assumption | exact Blk.new' (by simp) | apply Blk.drewN | apply Blk.drew | apply Blk.alloc | (refine Blk.far ?_ (by (try simp) <;> omega) _))))) hb_1
  have c_1_p0_0 : w_1.cell? ⟨b_p0, 0, none⟩ = some (.slice A0 n0 c0) := k_1_p0.cell 0
  have c_1_p0_1 : w_1.cell? ⟨b_p0, 1, none⟩ = some (.int .i64 a0_0) := k_1_p0.cell 1
  have c_1_p0_2 : w_1.cell? ⟨b_p0, 2, none⟩ = some (.int .i64 a0_1) := k_1_p0.cell 2
  have c_1_p0_3 : w_1.cell? ⟨b_p0, 3, none⟩ = some (.int .i64 a0_2) := k_1_p0.cell 3
  have c_1_p0_4 : w_1.cell? ⟨b_p0, 4, none⟩ = some (.int .i64 a0_3) := k_1_p0.cell 4
  have c_1_p0_5 : w_1.cell? ⟨b_p0, 5, none⟩ = some (.int .i64 a0_4) := k_1_p0.cell 5
  have c_1_p0_6 : w_1.cell? ⟨b_p0, 6, none⟩ = some (.int .i64 a0_5) := k_1_p0.cell 6
  have l_1_p0 := k_1_p0.lt
  clear i_0 k_0_p0 c_0_p0_0 c_0_p0_1 c_0_p0_2 c_0_p0_3 c_0_p0_4 c_0_p0_5 c_0_p0_6 l_0_p0 hb_0
  go_wp2_with fail
  refine (toBook_w A0 n0 c0 z0 a0_0 a0_1 a0_2 a0_3 a0_4 a0_5 _ (by first | omega | (unfold maxLen; omega)) (R0.out.in_ (by (repeat (first | exact In.refl _ | assumption | apply In.alloc | apply In.drewN | apply In.drew | (refine In.step ?_ (by assumption))))))).mono ?_
  rintro _ w_2 ⟨g0_2, rfl, ho0_2, hg0_2, hb_2⟩
  have o_2_X1 : OCEvent w_2 g0_2 n0 n0 z0 := ho0_2
  clear ho0_2 hg0_2
  have i_2 : In w.heap.size w w_2 := In.step (by (repeat (first | exact In.refl _ | assumption | apply In.alloc | apply In.drewN | apply In.drew | (refine In.step ?_ (by assumption))))) hb_2
  have k_2_p0 : Blk w_2 (b_p0) 45 #[.slice A0 n0 c0, .int .i64 a0_0, .int .i64 a0_1, .int .i64 a0_2, .int .i64 a0_3, .int .i64 a0_4, .int .i64 a0_5] := Blk.step (by (with_reducible (repeat (first | assumption | exact Blk.new' (by simp) | apply Blk.drewN | apply Blk.drew | apply Blk.alloc | (refine Blk.far ?_ (by (try simp) <;> omega) _))))) hb_2
  have c_2_p0_0 : w_2.cell? ⟨b_p0, 0, none⟩ = some (.slice A0 n0 c0) := k_2_p0.cell 0
  have c_2_p0_1 : w_2.cell? ⟨b_p0, 1, none⟩ = some (.int .i64 a0_0) := k_2_p0.cell 1
  have c_2_p0_2 : w_2.cell? ⟨b_p0, 2, none⟩ = some (.int .i64 a0_1) := k_2_p0.cell 2
  have c_2_p0_3 : w_2.cell? ⟨b_p0, 3, none⟩ = some (.int .i64 a0_2) := k_2_p0.cell 3
  have c_2_p0_4 : w_2.cell? ⟨b_p0, 4, none⟩ = some (.int .i64 a0_3) := k_2_p0.cell 4
  have c_2_p0_5 : w_2.cell? ⟨b_p0, 5, none⟩ = some (.int .i64 a0_4) := k_2_p0.cell 5
  have c_2_p0_6 : w_2.cell? ⟨b_p0, 6, none⟩ = some (.int .i64 a0_5) := k_2_p0.cell 6
  have l_2_p0 := k_2_p0.lt
  clear i_1 k_1_p0 c_1_p0_0 c_1_p0_1 c_1_p0_2 c_1_p0_3 c_1_p0_4 c_1_p0_5 c_1_p0_6 l_1_p0 hb_1
  go_wp2_with fail
  refine (HsC.out g0_2 _ (OCEvent.reads (by with_reducible (repeat (first | assumption | apply OCEvent.drewN | apply OCEvent.drew | apply OCEvent.alloc))))).mono ?_
  rintro _ w_3 ⟨g0_3, c0_3, rfl, ho0_3, hg0_3, hb_3⟩
  have o_3_X2 : OCEvent w_3 g0_3 zs0.length c0_3 zs0 := ho0_3
  clear ho0_3 hg0_3
  have i_3 : In w.heap.size w w_3 := In.step (by (repeat (first | exact In.refl _ | assumption | apply In.alloc | apply In.drewN | apply In.drew | (refine In.step ?_ (by assumption))))) hb_3
  have k_3_p0 : Blk w_3 (b_p0) 45 #[.slice A0 n0 c0, .int .i64 a0_0, .int .i64 a0_1, .int .i64 a0_2, .int .i64 a0_3, .int .i64 a0_4, .int .i64 a0_5] := Blk.step (by (with_reducible (repeat (first | assumption | exact Blk.new' (by simp) | apply Blk.drewN | apply Blk.drew | apply Blk.alloc | (refine Blk.far ?_ (by (try simp) <;> omega) _))))) hb_3
  have c_3_p0_0 : w_3.cell? ⟨b_p0, 0, none⟩ = some (.slice A0 n0 c0) := k_3_p0.cell 0
  have c_3_p0_1 : w_3.cell? ⟨b_p0, 1, none⟩ = some (.int .i64 a0_0) := k_3_p0.cell 1
  have c_3_p0_2 : w_3.cell? ⟨b_p0, 2, none⟩ = some (.int .i64 a0_1) := k_3_p0.cell 2
  have c_3_p0_3 : w_3.cell? ⟨b_p0, 3, none⟩ = some (.int .i64 a0_2) := k_3_p0.cell 3
  have c_3_p0_4 : w_3.cell? ⟨b_p0, 4, none⟩ = some (.int .i64 a0_3) := k_3_p0.cell 4
  have c_3_p0_5 : w_3.cell? ⟨b_p0, 5, none⟩ = some (.int .i64 a0_4) := k_3_p0.cell 5
  have c_3_p0_6 : w_3.cell? ⟨b_p0, 6, none⟩ = some (.int .i64 a0_5) := k_3_p0.cell 6
  have l_3_p0 := k_3_p0.lt
  clear i_2 k_2_p0 c_2_p0_0 c_2_p0_1 c_2_p0_2 c_2_p0_3 c_2_p0_4 c_2_p0_5 c_2_p0_6 l_2_p0 o_2_X1 hb_2
  go_wp2_with fail
  obtain ⟨b_l1, hbx_l1⟩ : ∃ b, b = w_3.heap.size := ⟨_, rfl⟩
  rw [← hbx_l1]
  have hb_4 : Below w_3.heap.size w_3 (w_3.alloc (.cells #[.slice (some ⟨g0_3, 0, none⟩) zs0.length c0_3, .int .i64 r0, .int .i64 r1, .int .i64 r2, .int .i64 r3, .int .i64 r4, .int .i64 r5] 51)) := (Below.refl _ _).alloc (Nat.le_refl _) _
  have kk_4 : Blk (w_3.alloc (.cells #[.slice (some ⟨g0_3, 0, none⟩) zs0.length c0_3, .int .i64 r0, .int .i64 r1, .int .i64 r2, .int .i64 r3, .int .i64 r4, .int .i64 r5] 51)) b_l1 51 #[.slice (some ⟨g0_3, 0, none⟩) zs0.length c0_3, .int .i64 r0, .int .i64 r1, .int .i64 r2, .int .i64 r3, .int .i64 r4, .int .i64 r5] := Blk.new' hbx_l1
  clear hbx_l1
  generalize (w_3.alloc (.cells #[.slice (some ⟨g0_3, 0, none⟩) zs0.length c0_3, .int .i64 r0, .int .i64 r1, .int .i64 r2, .int .i64 r3, .int .i64 r4, .int .i64 r5] 51)) = w_4 at *
  have i_4 : In w.heap.size w w_4 := In.step (by (repeat (first | exact In.refl _ | assumption | apply In.alloc | apply In.drewN | apply In.drew | (refine In.step ?_ (by assumption))))) hb_4
  have k_4_p0 : Blk w_4 (b_p0) 45 #[.slice A0 n0 c0, .int .i64 a0_0, .int .i64 a0_1, .int .i64 a0_2, .int .i64 a0_3, .int .i64 a0_4, .int .i64 a0_5] := Blk.step (by (with_reducible (repeat (first | assumption | exact Blk.new' (by simp) | apply Blk.drewN | apply Blk.drew | apply Blk.alloc | (refine Blk.far ?_ (by (try simp) <;> omega) _))))) hb_4
  have c_4_p0_0 : w_4.cell? ⟨b_p0, 0, none⟩ = some (.slice A0 n0 c0) := k_4_p0.cell 0
  have c_4_p0_1 : w_4.cell? ⟨b_p0, 1, none⟩ = some (.int .i64 a0_0) := k_4_p0.cell 1
  have c_4_p0_2 : w_4.cell? ⟨b_p0, 2, none⟩ = some (.int .i64 a0_1) := k_4_p0.cell 2
  have c_4_p0_3 : w_4.cell? ⟨b_p0, 3, none⟩ = some (.int .i64 a0_2) := k_4_p0.cell 3
  have c_4_p0_4 : w_4.cell? ⟨b_p0, 4, none⟩ = some (.int .i64 a0_3) := k_4_p0.cell 4
  have c_4_p0_5 : w_4.cell? ⟨b_p0, 5, none⟩ = some (.int .i64 a0_4) := k_4_p0.cell 5
  have c_4_p0_6 : w_4.cell? ⟨b_p0, 6, none⟩ = some (.int .i64 a0_5) := k_4_p0.cell 6
  have l_4_p0 := k_4_p0.lt
  have k_4_l1 : Blk w_4 (b_l1) 51 #[.slice (some ⟨g0_3, 0, none⟩) zs0.length c0_3, .int .i64 r0, .int .i64 r1, .int .i64 r2, .int .i64 r3, .int .i64 r4, .int .i64 r5] := kk_4
  have c_4_l1_0 : w_4.cell? ⟨b_l1, 0, none⟩ = some (.slice (some ⟨g0_3, 0, none⟩) zs0.length c0_3) := k_4_l1.cell 0
  have c_4_l1_1 : w_4.cell? ⟨b_l1, 1, none⟩ = some (.int .i64 r0) := k_4_l1.cell 1
  have c_4_l1_2 : w_4.cell? ⟨b_l1, 2, none⟩ = some (.int .i64 r1) := k_4_l1.cell 2
  have c_4_l1_3 : w_4.cell? ⟨b_l1, 3, none⟩ = some (.int .i64 r2) := k_4_l1.cell 3
  have c_4_l1_4 : w_4.cell? ⟨b_l1, 4, none⟩ = some (.int .i64 r3) := k_4_l1.cell 4
  have c_4_l1_5 : w_4.cell? ⟨b_l1, 5, none⟩ = some (.int .i64 r4) := k_4_l1.cell 5
  have c_4_l1_6 : w_4.cell? ⟨b_l1, 6, none⟩ = some (.int .i64 r5) := k_4_l1.cell 6
  have l_4_l1 := k_4_l1.lt
  have o_4_X2 : OCEvent w_4 g0_3 zs0.length c0_3 zs0 := OCEvent.step (by with_reducible (repeat (first | assumption | apply OCEvent.drewN | apply OCEvent.drew | apply OCEvent.alloc))) hb_4
  clear i_3 k_3_p0 c_3_p0_0 c_3_p0_1 c_3_p0_2 c_3_p0_3 c_3_p0_4 c_3_p0_5 c_3_p0_6 l_3_p0 o_3_X2 hb_3
  clear kk_4
  have HW0 := Lib.hid (OCEvent.reads o_4_X2)
  clear o_4_X2
  have IC := Lib.hid i_4
  have j_4 : In w_4.heap.size w_4 w_4 := In.refl _
  go_wp2_with fail
  refine (toBook_w A0 n0 c0 z0 a0_0 a0_1 a0_2 a0_3 a0_4 a0_5 _ (by first | omega | (unfold maxLen; omega)) (R0.out.in_ (IC.out.trans (by (repeat (first | exact In.refl _ | assumption | apply In.alloc | apply In.drewN | apply In.drew | (refine In.step ?_ (by assumption)))))))).mono ?_
  rintro _ w_5 ⟨g0_5, rfl, ho0_5, hg0_5, hb_5⟩
  have GX_X3 : Hid (w_4.heap.size ≤ g0_5) := Lib.hid (by have h1 := hg0_5; (try simp at h1); have h2 := In.size j_4; omega)
  have o_5_X3 : OCEvent w_5 g0_5 n0 n0 z0 := ho0_5
  clear ho0_5 hg0_5
  have j_5 : In w_4.heap.size w_4 w_5 := In.step (by (repeat (first | exact In.refl _ | assumption | apply In.alloc | apply In.drewN | apply In.drew | (refine In.step ?_ (by assumption))))) hb_5
  have k_5_p0 : Blk w_5 (b_p0) 45 #[.slice A0 n0 c0, .int .i64 a0_0, .int .i64 a0_1, .int .i64 a0_2, .int .i64 a0_3, .int .i64 a0_4, .int .i64 a0_5] := Blk.step (by (with_reducible (repeat (first | assumption | exact Blk.new' (by simp) | apply Blk.drewN | apply Blk.drew | apply Blk.alloc | (refine Blk.far ?_ (by (try simp) <;> omega) _))))) hb_5
  have c_5_p0_0 : w_5.cell? ⟨b_p0, 0, none⟩ = some (.slice A0 n0 c0) := k_5_p0.cell 0
  have c_5_p0_1 : w_5.cell? ⟨b_p0, 1, none⟩ = some (.int .i64 a0_0) := k_5_p0.cell 1
  have c_5_p0_2 : w_5.cell? ⟨b_p0, 2, none⟩ = some (.int .i64 a0_1) := k_5_p0.cell 2
  have c_5_p0_3 : w_5.cell? ⟨b_p0, 3, none⟩ = some (.int .i64 a0_2) := k_5_p0.cell 3
  have c_5_p0_4 : w_5.cell? ⟨b_p0, 4, none⟩ = some (.int .i64 a0_3) := k_5_p0.cell 4
  have c_5_p0_5 : w_5.cell? ⟨b_p0, 5, none⟩ = some (.int .i64 a0_4) := k_5_p0.cell 5
  have c_5_p0_6 : w_5.cell? ⟨b_p0, 6, none⟩ = some (.int .i64 a0_5) := k_5_p0.cell 6
  have l_5_p0 := k_5_p0.lt
  have k_5_l1 : Blk w_5 (b_l1) 51 #[.slice (some ⟨g0_3, 0, none⟩) zs0.length c0_3, .int .i64 r0, .int .i64 r1, .int .i64 r2, .int .i64 r3, .int .i64 r4, .int .i64 r5] := Blk.step (by (with_reducible (repeat (first | assumption | exact Blk.new' (by simp) | apply Blk.drewN | apply Blk.drew | apply Blk.alloc | (refine Blk.far ?_ (by (try simp) <;> omega) _))))) hb_5
  have c_5_l1_0 : w_5.cell? ⟨b_l1, 0, none⟩ = some (.slice (some ⟨g0_3, 0, none⟩) zs0.length c0_3) := k_5_l1.cell 0
  have c_5_l1_1 : w_5.cell? ⟨b_l1, 1, none⟩ = some (.int .i64 r0) := k_5_l1.cell 1
  have c_5_l1_2 : w_5.cell? ⟨b_l1, 2, none⟩ = some (.int .i64 r1) := k_5_l1.cell 2
  have c_5_l1_3 : w_5.cell? ⟨b_l1, 3, none⟩ = some (.int .i64 r2) := k_5_l1.cell 3
  have c_5_l1_4 : w_5.cell? ⟨b_l1, 4, none⟩ = some (.int .i64 r3) := k_5_l1.cell 4
  have c_5_l1_5 : w_5.cell? ⟨b_l1, 5, none⟩ = some (.int .i64 r4) := k_5_l1.cell 5
  have c_5_l1_6 : w_5.cell? ⟨b_l1, 6, none⟩ = some (.int .i64 r5) := k_5_l1.cell 6
  have l_5_l1 := k_5_l1.lt
  clear i_4 k_4_p0 c_4_p0_0 c_4_p0_1 c_4_p0_2 c_4_p0_3 c_4_p0_4 c_4_p0_5 c_4_p0_6 l_4_p0 k_4_l1 c_4_l1_0 c_4_l1_1 c_4_l1_2 c_4_l1_3 c_4_l1_4 c_4_l1_5 c_4_l1_6 l_4_l1 hb_4 j_4
  go_wp2_with fail
  obtain ⟨b_l2, hbx_l2⟩ : ∃ b, b = w_5.heap.size := ⟨_, rfl⟩
  rw [← hbx_l2]
  have hb_6 : Below w_5.heap.size w_5 (w_5.alloc (.cells #[.slice (some ⟨g0_5, 0, none⟩) n0 n0, .int .i64 a0_0, .int .i64 a0_1, .int .i64 a0_2, .int .i64 a0_3, .int .i64 a0_4, .int .i64 a0_5] 51)) := (Below.refl _ _).alloc (Nat.le_refl _) _
  have kk_6 : Blk (w_5.alloc (.cells #[.slice (some ⟨g0_5, 0, none⟩) n0 n0, .int .i64 a0_0, .int .i64 a0_1, .int .i64 a0_2, .int .i64 a0_3, .int .i64 a0_4, .int .i64 a0_5] 51)) b_l2 51 #[.slice (some ⟨g0_5, 0, none⟩) n0 n0, .int .i64 a0_0, .int .i64 a0_1, .int .i64 a0_2, .int .i64 a0_3, .int .i64 a0_4, .int .i64 a0_5] := Blk.new' hbx_l2
  clear hbx_l2
  generalize (w_5.alloc (.cells #[.slice (some ⟨g0_5, 0, none⟩) n0 n0, .int .i64 a0_0, .int .i64 a0_1, .int .i64 a0_2, .int .i64 a0_3, .int .i64 a0_4, .int .i64 a0_5] 51)) = w_6 at *
  have j_6 : In w_4.heap.size w_4 w_6 := In.step (by (repeat (first | exact In.refl _ | assumption | apply In.alloc | apply In.drewN | apply In.drew | (refine In.step ?_ (by assumption))))) hb_6
  have k_6_p0 : Blk w_6 (b_p0) 45 #[.slice A0 n0 c0, .int .i64 a0_0, .int .i64 a0_1, .int .i64 a0_2, .int .i64 a0_3, .int .i64 a0_4, .int .i64 a0_5] := Blk.step (by (with_reducible (repeat (first | assumption | exact Blk.new' (by simp) | apply Blk.drewN | apply Blk.drew | apply Blk.alloc | (refine Blk.far ?_ (by (try simp) <;> omega) _))))) hb_6
  have c_6_p0_0 : w_6.cell? ⟨b_p0, 0, none⟩ = some (.slice A0 n0 c0) := k_6_p0.cell 0
  have c_6_p0_1 : w_6.cell? ⟨b_p0, 1, none⟩ = some (.int .i64 a0_0) := k_6_p0.cell 1
  have c_6_p0_2 : w_6.cell? ⟨b_p0, 2, none⟩ = some (.int .i64 a0_1) := k_6_p0.cell 2
  have c_6_p0_3 : w_6.cell? ⟨b_p0, 3, none⟩ = some (.int .i64 a0_2) := k_6_p0.cell 3
  have c_6_p0_4 : w_6.cell? ⟨b_p0, 4, none⟩ = some (.int .i64 a0_3) := k_6_p0.cell 4
  have c_6_p0_5 : w_6.cell? ⟨b_p0, 5, none⟩ = some (.int .i64 a0_4) := k_6_p0.cell 5
  have c_6_p0_6 : w_6.cell? ⟨b_p0, 6, none⟩ = some (.int .i64 a0_5) := k_6_p0.cell 6
  have l_6_p0 := k_6_p0.lt
  have k_6_l1 : Blk w_6 (b_l1) 51 #[.slice (some ⟨g0_3, 0, none⟩) zs0.length c0_3, .int .i64 r0, .int .i64 r1, .int .i64 r2, .int .i64 r3, .int .i64 r4, .int .i64 r5] := Blk.step (by (with_reducible (repeat (first | assumption | exact Blk.new' (by simp) | apply Blk.drewN | apply Blk.drew | apply Blk.alloc | (refine Blk.far ?_ (by (try simp) <;> omega) _))))) hb_6
  have c_6_l1_0 : w_6.cell? ⟨b_l1, 0, none⟩ = some (.slice (some ⟨g0_3, 0, none⟩) zs0.length c0_3) := k_6_l1.cell 0
  have c_6_l1_1 : w_6.cell? ⟨b_l1, 1, none⟩ = some (.int .i64 r0) := k_6_l1.cell 1
  have c_6_l1_2 : w_6.cell? ⟨b_l1, 2, none⟩ = some (.int .i64 r1) := k_6_l1.cell 2
  have c_6_l1_3 : w_6.cell? ⟨b_l1, 3, none⟩ = some (.int .i64 r2) := k_6_l1.cell 3
  have c_6_l1_4 : w_6.cell? ⟨b_l1, 4, none⟩ = some (.int .i64 r3) := k_6_l1.cell 4
  have c_6_l1_5 : w_6.cell? ⟨b_l1, 5, none⟩ = some (.int .i64 r4) := k_6_l1.cell 5
  have c_6_l1_6 : w_6.cell? ⟨b_l1, 6, none⟩ = some (.int .i64 r5) := k_6_l1.cell 6
  have l_6_l1 := k_6_l1.lt
  have k_6_l2 : Blk w_6 (b_l2) 51 #[.slice (some ⟨g0_5, 0, none⟩) n0 n0, .int .i64 a0_0, .int .i64 a0_1, .int .i64 a0_2, .int .i64 a0_3, .int .i64 a0_4, .int .i64 a0_5] := kk_6
  have c_6_l2_0 : w_6.cell? ⟨b_l2, 0, none⟩ = some (.slice (some ⟨g0_5, 0, none⟩) n0 n0) := k_6_l2.cell 0
  have c_6_l2_1 : w_6.cell? ⟨b_l2, 1, none⟩ = some (.int .i64 a0_0) := k_6_l2.cell 1
  have c_6_l2_2 : w_6.cell? ⟨b_l2, 2, none⟩ = some (.int .i64 a0_1) := k_6_l2.cell 2
  have c_6_l2_3 : w_6.cell? ⟨b_l2, 3, none⟩ = some (.int .i64 a0_2) := k_6_l2.cell 3
  have c_6_l2_4 : w_6.cell? ⟨b_l2, 4, none⟩ = some (.int .i64 a0_3) := k_6_l2.cell 4
  have c_6_l2_5 : w_6.cell? ⟨b_l2, 5, none⟩ = some (.int .i64 a0_4) := k_6_l2.cell 5
  have c_6_l2_6 : w_6.cell? ⟨b_l2, 6, none⟩ = some (.int .i64 a0_5) := k_6_l2.cell 6
  have l_6_l2 := k_6_l2.lt
  have o_6_X3 : OCEvent w_6 g0_5 n0 n0 z0 := OCEvent.step (by with_reducible (repeat (first | assumption | apply OCEvent.drewN | apply OCEvent.drew | apply OCEvent.alloc))) hb_6
  clear j_5 k_5_p0 c_5_p0_0 c_5_p0_1 c_5_p0_2 c_5_p0_3 c_5_p0_4 c_5_p0_5 c_5_p0_6 l_5_p0 k_5_l1 c_5_l1_0 c_5_l1_1 c_5_l1_2 c_5_l1_3 c_5_l1_4 c_5_l1_5 c_5_l1_6 l_5_l1 o_5_X3 hb_5
  clear kk_6
  go_wp2_with fail
  refine (HiC.out g0_5 _ (OCEvent.reads (by with_reducible (repeat (first | assumption | apply OCEvent.drewN | apply OCEvent.drew | apply OCEvent.alloc))))).mono ?_
  rintro _ w_7 ⟨g0_7, c0_7, rfl, ho0_7, hg0_7, hb_7⟩
  have NE_X3_X4 : Hid (g0_5 ≠ g0_7) := Lib.hid (by have h1 := hg0_7; (try simp at h1); have h2 := OCEvent.lt o_6_X3; omega)
  have GX_X4 : Hid (w_4.heap.size ≤ g0_7) := Lib.hid (by have h1 := hg0_7; (try simp at h1); have h2 := In.size j_6; omega)
  have o_7_X4 : OCEvent w_7 g0_7 zs0.length c0_7 zs0 := ho0_7
  clear ho0_7 hg0_7
  have j_7 : In w_4.heap.size w_4 w_7 := In.step (by (repeat (first | exact In.refl _ | assumption | apply In.alloc | apply In.drewN | apply In.drew | (refine In.step ?_ (by assumption))))) hb_7
  have k_7_p0 : Blk w_7 (b_p0) 45 #[.slice A0 n0 c0, .int .i64 a0_0, .int .i64 a0_1, .int .i64 a0_2, .int .i64 a0_3, .int .i64 a0_4, .int .i64 a0_5] := Blk.step (by (with_reducible (repeat (first | assumption | exact Blk.new' (by simp) | apply Blk.drewN | apply Blk.drew | apply Blk.alloc | (refine Blk.far ?_ (by (try simp) <;> omega) _))))) hb_7
  have c_7_p0_0 : w_7.cell? ⟨b_p0, 0, none⟩ = some (.slice A0 n0 c0) := k_7_p0.cell 0
  have c_7_p0_1 : w_7.cell? ⟨b_p0, 1, none⟩ = some (.int .i64 a0_0) := k_7_p0.cell 1
  have c_7_p0_2 : w_7.cell? ⟨b_p0, 2, none⟩ = some (.int .i64 a0_1) := k_7_p0.cell 2
  have c_7_p0_3 : w_7.cell? ⟨b_p0, 3, none⟩ = some (.int .i64 a0_2) := k_7_p0.cell 3
  have c_7_p0_4 : w_7.cell? ⟨b_p0, 4, none⟩ = some (.int .i64 a0_3) := k_7_p0.cell 4
  have c_7_p0_5 : w_7.cell? ⟨b_p0, 5, none⟩ = some (.int .i64 a0_4) := k_7_p0.cell 5
  have c_7_p0_6 : w_7.cell? ⟨b_p0, 6, none⟩ = some (.int .i64 a0_5) := k_7_p0.cell 6
  have l_7_p0 := k_7_p0.lt
  have k_7_l1 : Blk w_7 (b_l1) 51 #[.slice (some ⟨g0_3, 0, none⟩) zs0.length c0_3, .int .i64 r0, .int .i64 r1, .int .i64 r2, .int .i64 r3, .int .i64 r4, .int .i64 r5] := Blk.step (by (with_reducible (repeat (first | assumption | exact Blk.new' (by simp) | apply Blk.drewN | apply Blk.drew | apply Blk.alloc | (refine Blk.far ?_ (by (try simp) <;> omega) _))))) hb_7
  have c_7_l1_0 : w_7.cell? ⟨b_l1, 0, none⟩ = some (.slice (some ⟨g0_3, 0, none⟩) zs0.length c0_3) := k_7_l1.cell 0
  have c_7_l1_1 : w_7.cell? ⟨b_l1, 1, none⟩ = some (.int .i64 r0) := k_7_l1.cell 1
  have c_7_l1_2 : w_7.cell? ⟨b_l1, 2, none⟩ = some (.int .i64 r1) := k_7_l1.cell 2
  have c_7_l1_3 : w_7.cell? ⟨b_l1, 3, none⟩ = some (.int .i64 r2) := k_7_l1.cell 3
  have c_7_l1_4 : w_7.cell? ⟨b_l1, 4, none⟩ = some (.int .i64 r3) := k_7_l1.cell 4
  have c_7_l1_5 : w_7.cell? ⟨b_l1, 5, none⟩ = some (.int .i64 r4) := k_7_l1.cell 5
  have c_7_l1_6 : w_7.cell? ⟨b_l1, 6, none⟩ = some (.int .i64 r5) := k_7_l1.cell 6
  have l_7_l1 := k_7_l1.lt
  have k_7_l2 : Blk w_7 (b_l2) 51 #[.slice (some ⟨g0_5, 0, none⟩) n0 n0, .int .i64 a0_0, .int .i64 a0_1, .int .i64 a0_2, .int .i64 a0_3, .int .i64 a0_4, .int .i64 a0_5] := Blk.step (by (with_reducible (repeat (first | assumption | exact Blk.new' (by simp) | apply Blk.drewN | apply Blk.drew | apply Blk.alloc | (refine Blk.far ?_ (by (try simp) <;> omega) _))))) hb_7
  have c_7_l2_0 : w_7.cell? ⟨b_l2, 0, none⟩ = some (.slice (some ⟨g0_5, 0, none⟩) n0 n0) := k_7_l2.cell 0
  have c_7_l2_1 : w_7.cell? ⟨b_l2, 1, none⟩ = some (.int .i64 a0_0) := k_7_l2.cell 1
  have c_7_l2_2 : w_7.cell? ⟨b_l2, 2, none⟩ = some (.int .i64 a0_1) := k_7_l2.cell 2
  have c_7_l2_3 : w_7.cell? ⟨b_l2, 3, none⟩ = some (.int .i64 a0_2) := k_7_l2.cell 3
  have c_7_l2_4 : w_7.cell? ⟨b_l2, 4, none⟩ = some (.int .i64 a0_3) := k_7_l2.cell 4
  have c_7_l2_5 : w_7.cell? ⟨b_l2, 5, none⟩ = some (.int .i64 a0_4) := k_7_l2.cell 5
  have c_7_l2_6 : w_7.cell? ⟨b_l2, 6, none⟩ = some (.int .i64 a0_5) := k_7_l2.cell 6
  have l_7_l2 := k_7_l2.lt
  have o_7_X3 : OCEvent w_7 g0_5 n0 n0 z0 := OCEvent.step (by with_reducible (repeat (first | assumption | apply OCEvent.drewN | apply OCEvent.drew | apply OCEvent.alloc))) hb_7
  clear j_6 k_6_p0 c_6_p0_0 c_6_p0_1 c_6_p0_2 c_6_p0_3 c_6_p0_4 c_6_p0_5 c_6_p0_6 l_6_p0 k_6_l1 c_6_l1_0 c_6_l1_1 c_6_l1_2 c_6_l1_3 c_6_l1_4 c_6_l1_5 c_6_l1_6 l_6_l1 k_6_l2 c_6_l2_0 c_6_l2_1 c_6_l2_2 c_6_l2_3 c_6_l2_4 c_6_l2_5 c_6_l2_6 l_6_l2 o_6_X3 hb_6
  go_wp2_with fail
  obtain ⟨b_l3, hbx_l3⟩ : ∃ b, b = w_7.heap.size := ⟨_, rfl⟩
  rw [← hbx_l3]
  have hb_8 : Below w_7.heap.size w_7 (w_7.alloc (.cells #[.slice (some ⟨g0_7, 0, none⟩) zs0.length c0_7, .int .i64 r0, .int .i64 r1, .int .i64 r2, .int .i64 r3, .int .i64 r4, .int .i64 r5] 51)) := (Below.refl _ _).alloc (Nat.le_refl _) _
  have kk_8 : Blk (w_7.alloc (.cells #[.slice (some ⟨g0_7, 0, none⟩) zs0.length c0_7, .int .i64 r0, .int .i64 r1, .int .i64 r2, .int .i64 r3, .int .i64 r4, .int .i64 r5] 51)) b_l3 51 #[.slice (some ⟨g0_7, 0, none⟩) zs0.length c0_7, .int .i64 r0, .int .i64 r1, .int .i64 r2, .int .i64 r3, .int .i64 r4, .int .i64 r5] := Blk.new' hbx_l3
  clear hbx_l3
  generalize (w_7.alloc (.cells #[.slice (some ⟨g0_7, 0, none⟩) zs0.length c0_7, .int .i64 r0, .int .i64 r1, .int .i64 r2, .int .i64 r3, .int .i64 r4, .int .i64 r5] 51)) = w_8 at *
  have j_8 : In w_4.heap.size w_4 w_8 := In.step (by (repeat (first | exact In.refl _ | assumption | apply In.alloc | apply In.drewN | apply In.drew | (refine In.step ?_ (by assumption))))) hb_8
  have k_8_p0 : Blk w_8 (b_p0) 45 #[.slice A0 n0 c0, .int .i64 a0_0, .int .i64 a0_1, .int .i64 a0_2, .int .i64 a0_3, .int .i64 a0_4, .int .i64 a0_5] := Blk.step (by (with_reducible (repeat (first | assumption | exact Blk.new' (by simp) | apply Blk.drewN | apply Blk.drew | apply Blk.alloc | (refine Blk.far ?_ (by (try simp) <;> omega) _))))) hb_8
  have c_8_p0_0 : w_8.cell? ⟨b_p0, 0, none⟩ = some (.slice A0 n0 c0) := k_8_p0.cell 0
  have c_8_p0_1 : w_8.cell? ⟨b_p0, 1, none⟩ = some (.int .i64 a0_0) := k_8_p0.cell 1
  have c_8_p0_2 : w_8.cell? ⟨b_p0, 2, none⟩ = some (.int .i64 a0_1) := k_8_p0.cell 2
  have c_8_p0_3 : w_8.cell? ⟨b_p0, 3, none⟩ = some (.int .i64 a0_2) := k_8_p0.cell 3
  have c_8_p0_4 : w_8.cell? ⟨b_p0, 4, none⟩ = some (.int .i64 a0_3) := k_8_p0.cell 4
  have c_8_p0_5 : w_8.cell? ⟨b_p0, 5, none⟩ = some (.int .i64 a0_4) := k_8_p0.cell 5
  have c_8_p0_6 : w_8.cell? ⟨b_p0, 6, none⟩ = some (.int .i64 a0_5) := k_8_p0.cell 6
  have l_8_p0 := k_8_p0.lt
  have k_8_l1 : Blk w_8 (b_l1) 51 #[.slice (some ⟨g0_3, 0, none⟩) zs0.length c0_3, .int .i64 r0, .int .i64 r1, .int .i64 r2, .int .i64 r3, .int .i64 r4, .int .i64 r5] := Blk.step (by (with_reducible (repeat (first | assumption | exact Blk.new' (by simp) | apply Blk.drewN | apply Blk.drew | apply Blk.alloc | (refine Blk.far ?_ (by (try simp) <;> omega) _))))) hb_8
  have c_8_l1_0 : w_8.cell? ⟨b_l1, 0, none⟩ = some (.slice (some ⟨g0_3, 0, none⟩) zs0.length c0_3) := k_8_l1.cell 0
  have c_8_l1_1 : w_8.cell? ⟨b_l1, 1, none⟩ = some (.int .i64 r0) := k_8_l1.cell 1
  have c_8_l1_2 : w_8.cell? ⟨b_l1, 2, none⟩ = some (.int .i64 r1) := k_8_l1.cell 2
  have c_8_l1_3 : w_8.cell? ⟨b_l1, 3, none⟩ = some (.int .i64 r2) := k_8_l1.cell 3
  have c_8_l1_4 : w_8.cell? ⟨b_l1, 4, none⟩ = some (.int .i64 r3) := k_8_l1.cell 4
  have c_8_l1_5 : w_8.cell? ⟨b_l1, 5, none⟩ = some (.int .i64 r4) := k_8_l1.cell 5
  have c_8_l1_6 : w_8.cell? ⟨b_l1, 6, none⟩ = some (.int .i64 r5) := k_8_l1.cell 6
  have l_8_l1 := k_8_l1.lt
  have k_8_l2 : Blk w_8 (b_l2) 51 #[.slice (some ⟨g0_5, 0, none⟩) n0 n0, .int .i64 a0_0, .int .i64 a0_1, .int .i64 a0_2, .int .i64 a0_3, .int .i64 a0_4, .int .i64 a0_5] := Blk.step (by (with_reducible (repeat (first | assumption | exact Blk.new' (by simp) | apply Blk.drewN | apply Blk.drew | apply Blk.alloc | (refine Blk.far ?_ (by (try simp) <;> omega) _))))) hb_8
  have c_8_l2_0 : w_8.cell? ⟨b_l2, 0, none⟩ = some (.slice (some ⟨g0_5, 0, none⟩) n0 n0) := k_8_l2.cell 0
  have c_8_l2_1 : w_8.cell? ⟨b_l2, 1, none⟩ = some (.int .i64 a0_0) := k_8_l2.cell 1
  have c_8_l2_2 : w_8.cell? ⟨b_l2, 2, none⟩ = some (.int .i64 a0_1) := k_8_l2.cell 2
  have c_8_l2_3 : w_8.cell? ⟨b_l2, 3, none⟩ = some (.int .i64 a0_2) := k_8_l2.cell 3
  have c_8_l2_4 : w_8.cell? ⟨b_l2, 4, none⟩ = some (.int .i64 a0_3) := k_8_l2.cell 4
  have c_8_l2_5 : w_8.cell? ⟨b_l2, 5, none⟩ = some (.int .i64 a0_4) := k_8_l2.cell 5
  have c_8_l2_6 : w_8.cell? ⟨b_l2, 6, none⟩ = some (.int .i64 a0_5) := k_8_l2.cell 6
  have l_8_l2 := k_8_l2.lt
  have k_8_l3 : Blk w_8 (b_l3) 51 #[.slice (some ⟨g0_7, 0, none⟩) zs0.length c0_7, .int .i64 r0, .int .i64 r1, .int .i64 r2, .int .i64 r3, .int .i64 r4, .int .i64 r5] := kk_8
  have c_8_l3_0 : w_8.cell? ⟨b_l3, 0, none⟩ = some (.slice (some ⟨g0_7, 0, none⟩) zs0.length c0_7) := k_8_l3.cell 0
  have c_8_l3_1 : w_8.cell? ⟨b_l3, 1, none⟩ = some (.int .i64 r0) := k_8_l3.cell 1
  have c_8_l3_2 : w_8.cell? ⟨b_l3, 2, none⟩ = some (.int .i64 r1) := k_8_l3.cell 2
  have c_8_l3_3 : w_8.cell? ⟨b_l3, 3, none⟩ = some (.int .i64 r2) := k_8_l3.cell 3
  have c_8_l3_4 : w_8.cell? ⟨b_l3, 4, none⟩ = some (.int .i64 r3) := k_8_l3.cell 4
  have c_8_l3_5 : w_8.cell? ⟨b_l3, 5, none⟩ = some (.int .i64 r4) := k_8_l3.cell 5
  have c_8_l3_6 : w_8.cell? ⟨b_l3, 6, none⟩ = some (.int .i64 r5) := k_8_l3.cell 6
  have l_8_l3 := k_8_l3.lt
  have o_8_X3 : OCEvent w_8 g0_5 n0 n0 z0 := OCEvent.step (by with_reducible (repeat (first | assumption | apply OCEvent.drewN | apply OCEvent.drew | apply OCEvent.alloc))) hb_8
  have o_8_X4 : OCEvent w_8 g0_7 zs0.length c0_7 zs0 := OCEvent.step (by with_reducible (repeat (first | assumption | apply OCEvent.drewN | apply OCEvent.drew | apply OCEvent.alloc))) hb_8
  clear j_7 k_7_p0 c_7_p0_0 c_7_p0_1 c_7_p0_2 c_7_p0_3 c_7_p0_4 c_7_p0_5 c_7_p0_6 l_7_p0 k_7_l1 c_7_l1_0 c_7_l1_1 c_7_l1_2 c_7_l1_3 c_7_l1_4 c_7_l1_5 c_7_l1_6 l_7_l1 k_7_l2 c_7_l2_0 c_7_l2_1 c_7_l2_2 c_7_l2_3 c_7_l2_4 c_7_l2_5 c_7_l2_6 l_7_l2 o_7_X3 o_7_X4 hb_7
  clear kk_8
  go_wp2_with fail
  refine (eqBook_w (some ⟨g0_7, 0, none⟩) (some ⟨g0_3, 0, none⟩) zs0.length c0_7 c0_3 zs0 r0 r1 r2 r3 r4 r5 _ (by first | omega | (unfold maxLen; omega)) (OCEvent.reads (by with_reducible (repeat (first | assumption | apply OCEvent.drewN | apply OCEvent.drew | apply OCEvent.alloc)))) (HW0.out.in_ (by (repeat (first | exact In.refl _ | assumption | apply In.alloc | apply In.drewN | apply In.drew | (refine In.step ?_ (by assumption))))))).mono ?_
  rintro _ w_9 ⟨rfl, hb_9⟩
  have j_9 : In w_4.heap.size w_4 w_9 := In.step (by (repeat (first | exact In.refl _ | assumption | apply In.alloc | apply In.drewN | apply In.drew | (refine In.step ?_ (by assumption))))) hb_9
  have k_9_p0 : Blk w_9 (b_p0) 45 #[.slice A0 n0 c0, .int .i64 a0_0, .int .i64 a0_1, .int .i64 a0_2, .int .i64 a0_3, .int .i64 a0_4, .int .i64 a0_5] := Blk.step (by (with_reducible (repeat (first | assumption | exact Blk.new' (by simp) | apply Blk.drewN | apply Blk.drew | apply Blk.alloc | (refine Blk.far ?_ (by (try simp) <;> omega) _))))) hb_9
  have c_9_p0_0 : w_9.cell? ⟨b_p0, 0, none⟩ = some (.slice A0 n0 c0) := k_9_p0.cell 0
  have c_9_p0_1 : w_9.cell? ⟨b_p0, 1, none⟩ = some (.int .i64 a0_0) := k_9_p0.cell 1
  have c_9_p0_2 : w_9.cell? ⟨b_p0, 2, none⟩ = some (.int .i64 a0_1) := k_9_p0.cell 2
  have c_9_p0_3 : w_9.cell? ⟨b_p0, 3, none⟩ = some (.int .i64 a0_2) := k_9_p0.cell 3
  have c_9_p0_4 : w_9.cell? ⟨b_p0, 4, none⟩ = some (.int .i64 a0_3) := k_9_p0.cell 4
  have c_9_p0_5 : w_9.cell? ⟨b_p0, 5, none⟩ = some (.int .i64 a0_4) := k_9_p0.cell 5
  have c_9_p0_6 : w_9.cell? ⟨b_p0, 6, none⟩ = some (.int .i64 a0_5) := k_9_p0.cell 6
  have l_9_p0 := k_9_p0.lt
  have k_9_l1 : Blk w_9 (b_l1) 51 #[.slice (some ⟨g0_3, 0, none⟩) zs0.length c0_3, .int .i64 r0, .int .i64 r1, .int .i64 r2, .int .i64 r3, .int .i64 r4, .int .i64 r5] := Blk.step (by (with_reducible (repeat (first | assumption | exact Blk.new' (by simp) | apply Blk.drewN | apply Blk.drew | apply Blk.alloc | (refine Blk.far ?_ (by (try simp) <;> omega) _))))) hb_9
  have c_9_l1_0 : w_9.cell? ⟨b_l1, 0, none⟩ = some (.slice (some ⟨g0_3, 0, none⟩) zs0.length c0_3) := k_9_l1.cell 0
  have c_9_l1_1 : w_9.cell? ⟨b_l1, 1, none⟩ = some (.int .i64 r0) := k_9_l1.cell 1
  have c_9_l1_2 : w_9.cell? ⟨b_l1, 2, none⟩ = some (.int .i64 r1) := k_9_l1.cell 2
  have c_9_l1_3 : w_9.cell? ⟨b_l1, 3, none⟩ = some (.int .i64 r2) := k_9_l1.cell 3
  have c_9_l1_4 : w_9.cell? ⟨b_l1, 4, none⟩ = some (.int .i64 r3) := k_9_l1.cell 4
  have c_9_l1_5 : w_9.cell? ⟨b_l1, 5, none⟩ = some (.int .i64 r4) := k_9_l1.cell 5
  have c_9_l1_6 : w_9.cell? ⟨b_l1, 6, none⟩ = some (.int .i64 r5) := k_9_l1.cell 6
  have l_9_l1 := k_9_l1.lt
  have k_9_l2 : Blk w_9 (b_l2) 51 #[.slice (some ⟨g0_5, 0, none⟩) n0 n0, .int .i64 a0_0, .int .i64 a0_1, .int .i64 a0_2, .int .i64 a0_3, .int .i64 a0_4, .int .i64 a0_5] := Blk.step (by (with_reducible (repeat (first | assumption | exact Blk.new' (by simp) | apply Blk.drewN | apply Blk.drew | apply Blk.alloc | (refine Blk.far ?_ (by (try simp) <;> omega) _))))) hb_9
  have c_9_l2_0 : w_9.cell? ⟨b_l2, 0, none⟩ = some (.slice (some ⟨g0_5, 0, none⟩) n0 n0) := k_9_l2.cell 0
  have c_9_l2_1 : w_9.cell? ⟨b_l2, 1, none⟩ = some (.int .i64 a0_0) := k_9_l2.cell 1
  have c_9_l2_2 : w_9.cell? ⟨b_l2, 2, none⟩ = some (.int .i64 a0_1) := k_9_l2.cell 2
  have c_9_l2_3 : w_9.cell? ⟨b_l2, 3, none⟩ = some (.int .i64 a0_2) := k_9_l2.cell 3
  have c_9_l2_4 : w_9.cell? ⟨b_l2, 4, none⟩ = some (.int .i64 a0_3) := k_9_l2.cell 4
  have c_9_l2_5 : w_9.cell? ⟨b_l2, 5, none⟩ = some (.int .i64 a0_4) := k_9_l2.cell 5
  have c_9_l2_6 : w_9.cell? ⟨b_l2, 6, none⟩ = some (.int .i64 a0_5) := k_9_l2.cell 6
  have l_9_l2 := k_9_l2.lt
  have k_9_l3 : Blk w_9 (b_l3) 51 #[.slice (some ⟨g0_7, 0, none⟩) zs0.length c0_7, .int .i64 r0, .int .i64 r1, .int .i64 r2, .int .i64 r3, .int .i64 r4, .int .i64 r5] := Blk.step (by (with_reducible (repeat (first | assumption | exact Blk.new' (by simp) | apply Blk.drewN | apply Blk.drew | apply Blk.alloc | (refine Blk.far ?_ (by (try simp) <;> omega) _))))) hb_9
  have c_9_l3_0 : w_9.cell? ⟨b_l3, 0, none⟩ = some (.slice (some ⟨g0_7, 0, none⟩) zs0.length c0_7) := k_9_l3.cell 0
  have c_9_l3_1 : w_9.cell? ⟨b_l3, 1, none⟩ = some (.int .i64 r0) := k_9_l3.cell 1
  have c_9_l3_2 : w_9.cell? ⟨b_l3, 2, none⟩ = some (.int .i64 r1) := k_9_l3.cell 2
  have c_9_l3_3 : w_9.cell? ⟨b_l3, 3, none⟩ = some (.int .i64 r2) := k_9_l3.cell 3
  have c_9_l3_4 : w_9.cell? ⟨b_l3, 4, none⟩ = some (.int .i64 r3) := k_9_l3.cell 4
  have c_9_l3_5 : w_9.cell? ⟨b_l3, 5, none⟩ = some (.int .i64 r4) := k_9_l3.cell 5
  have c_9_l3_6 : w_9.cell? ⟨b_l3, 6, none⟩ = some (.int .i64 r5) := k_9_l3.cell 6
  have l_9_l3 := k_9_l3.lt
  have o_9_X3 : OCEvent w_9 g0_5 n0 n0 z0 := OCEvent.step (by with_reducible (repeat (first | assumption | apply OCEvent.drewN | apply OCEvent.drew | apply OCEvent.alloc))) hb_9
  have o_9_X4 : OCEvent w_9 g0_7 zs0.length c0_7 zs0 := OCEvent.step (by with_reducible (repeat (first | assumption | apply OCEvent.drewN | apply OCEvent.drew | apply OCEvent.alloc))) hb_9
  clear j_8 k_8_p0 c_8_p0_0 c_8_p0_1 c_8_p0_2 c_8_p0_3 c_8_p0_4 c_8_p0_5 c_8_p0_6 l_8_p0 k_8_l1 c_8_l1_0 c_8_l1_1 c_8_l1_2 c_8_l1_3 c_8_l1_4 c_8_l1_5 c_8_l1_6 l_8_l1 k_8_l2 c_8_l2_0 c_8_l2_1 c_8_l2_2 c_8_l2_3 c_8_l2_4 c_8_l2_5 c_8_l2_6 l_8_l2 k_8_l3 c_8_l3_0 c_8_l3_1 c_8_l3_2 c_8_l3_3 c_8_l3_4 c_8_l3_5 c_8_l3_6 l_8_l3 o_8_X3 o_8_X4 hb_8
  go_wp2_with fail
  have hBw_9 : w_9.heap.size ≤ w_9.heap.size := Nat.le_refl _
  obtain ⟨B_9, hB_9⟩ : ∃ B, B = w_9.heap.size := ⟨_, rfl⟩
  have hBl_9 : B_9 ≤ w_9.heap.size := by omega
  have hBg_9 : w_9.heap.size ≤ B_9 := by omega
  clear hBw_9 hB_9
  refine wp_region_facts (JIStrikea w_9 zs0 r0 r1 r2 r3 r4 r5 f0v A0 n0 c0 z0 a0_0 a0_1 a0_2 a0_3 a0_4 a0_5 b_p0 g0_2 c0_3 g0_3 b_l1 g0_5 b_l2 c0_7 g0_7 b_l3) (JFStrikea B_9 zs0 r0 r1 r2 r3 r4 r5 f0v A0 n0 c0 z0 a0_0 a0_1 a0_2 a0_3 a0_4 a0_5 b_p0 g0_2 c0_3 g0_3 b_l1 g0_5 b_l2 c0_7 g0_7 b_l3) (by kernel_rfl) (by kernel_rfl) ⟨⟨fun _ => undef, rfl⟩, (In.refl _).drew⟩ ?_ ?_
  · intro a v1 i o ho hI haf
    obtain ⟨⟨f, rfl⟩, hin⟩ := hI
    have kv_p0 : Blk v1 (b_p0) 45 #[.slice A0 n0 c0, .int .i64 a0_0, .int .i64 a0_1, .int .i64 a0_2, .int .i64 a0_3, .int .i64 a0_4, .int .i64 a0_5] := Blk.step k_9_p0 hin.below
    have cv_p0_0 := kv_p0.cell 0
    have cv_p0_1 := kv_p0.cell 1
    have cv_p0_2 := kv_p0.cell 2
    have cv_p0_3 := kv_p0.cell 3
    have cv_p0_4 := kv_p0.cell 4
    have cv_p0_5 := kv_p0.cell 5
    have cv_p0_6 := kv_p0.cell 6
    have kv_l2 : Blk v1 (b_l2) 51 #[.slice (some ⟨g0_5, 0, none⟩) n0 n0, .int .i64 a0_0, .int .i64 a0_1, .int .i64 a0_2, .int .i64 a0_3, .int .i64 a0_4, .int .i64 a0_5] := Blk.step k_9_l2 hin.below
    have cv_l2_0 := kv_l2.cell 0
    have cv_l2_1 := kv_l2.cell 1
    have cv_l2_2 := kv_l2.cell 2
    have cv_l2_3 := kv_l2.cell 3
    have cv_l2_4 := kv_l2.cell 4
    have cv_l2_5 := kv_l2.cell 5
    have cv_l2_6 := kv_l2.cell 6
    have ov_X3 : OCEvent v1 g0_5 n0 n0 z0 := OCEvent.step o_9_X3 hin.below
    have ov_X4 : OCEvent v1 g0_7 zs0.length c0_7 zs0 := OCEvent.step o_9_X4 hin.below
    have hi : i < 5 := by
      rcases Nat.lt_or_ge i 5 with h | h
      · exact h
      · simp [h] at ho
    suffices H : ∀ K : Act → World → Prop, (∀ a' w', ((JIStrikea w_9 zs0 r0 r1 r2 r3 r4 r5 f0v A0 n0 c0 z0 a0_0 a0_1 a0_2 a0_3 a0_4 a0_5 b_p0 g0_2 c0_3 g0_3 b_l1 g0_5 b_l2 c0_7 g0_7 b_l3) a' w' ∧ (JFStrikea B_9 zs0 r0 r1 r2 r3 r4 r5 f0v A0 n0 c0 z0 a0_0 a0_1 a0_2 a0_3 a0_4 a0_5 b_p0 g0_2 c0_3 g0_3 b_l1 g0_5 b_l2 c0_7 g0_7 b_l3) i a' w' ∧ ∀ j, j ≠ i → waitsB _ j i = false → (JFStrikea B_9 zs0 r0 r1 r2 r3 r4 r5 f0v A0 n0 c0 z0 a0_0 a0_1 a0_2 a0_3 a0_4 a0_5 b_p0 g0_2 c0_3 g0_3 b_l1 g0_5 b_l2 c0_7 g0_7 b_l3) j ⟨#[Value.agg #[Value.slice A0 n0 c0, Value.int IntKind.i64 a0_0, Value.int IntKind.i64 a0_1, Value.int IntKind.i64 a0_2, Value.int IntKind.i64 a0_3, Value.int IntKind.i64 a0_4, Value.int IntKind.i64 a0_5], Value.pointer (some { block := b_p0, off := 0 }), Value.bool false, Value.int IntKind.i64 (1048576 - ((n0 : Nat) : Int)), Value.pointer (some { block := b_l1, off := 0 }), Value.bool f0v, Value.pointer (some { block := b_l2, off := 0 }), Value.pointer (some { block := b_l3, off := 0 }), Value.bool f0v, undef, undef, undef, undef, undef, Value.agg #[Value.slice A0 n0 c0, Value.int IntKind.i64 a0_0, Value.int IntKind.i64 a0_1, Value.int IntKind.i64 a0_2, Value.int IntKind.i64 a0_3, Value.int IntKind.i64 a0_4, Value.int IntKind.i64 a0_5], Value.int IntKind.i64 1048576, Value.int IntKind.i64 (1048576 - ((n0 : Nat) : Int)), Value.int IntKind.i64 (1048576 - ((n0 : Nat) : Int)), Value.bool (decide (1048576 - ((n0 : Nat) : Int) < 0)), Value.tuple #[Value.agg #[Value.slice (some { block := g0_3, off := 0 }) zs0.length c0_3, Value.int IntKind.i64 r0, Value.int IntKind.i64 r1, Value.int IntKind.i64 r2, Value.int IntKind.i64 r3, Value.int IntKind.i64 r4, Value.int IntKind.i64 r5], Value.bool f0v], Value.agg #[Value.slice A0 n0 c0, Value.int IntKind.i64 a0_0, Value.int IntKind.i64 a0_1, Value.int IntKind.i64 a0_2, Value.int IntKind.i64 a0_3, Value.int IntKind.i64 a0_4, Value.int IntKind.i64 a0_5], Value.agg #[Value.slice (some { block := g0_2, off := 0 }) n0 n0, Value.int IntKind.i64 a0_0, Value.int IntKind.i64 a0_1, Value.int IntKind.i64 a0_2, Value.int IntKind.i64 a0_3, Value.int IntKind.i64 a0_4, Value.int IntKind.i64 a0_5], Value.tuple #[Value.agg #[Value.slice (some { block := g0_3, off := 0 }) zs0.length c0_3, Value.int IntKind.i64 r0, Value.int IntKind.i64 r1, Value.int IntKind.i64 r2, Value.int IntKind.i64 r3, Value.int IntKind.i64 r4, Value.int IntKind.i64 r5], Value.bool f0v], Value.agg #[Value.slice (some { block := g0_3, off := 0 }) zs0.length c0_3, Value.int IntKind.i64 r0, Value.int IntKind.i64 r1, Value.int IntKind.i64 r2, Value.int IntKind.i64 r3, Value.int IntKind.i64 r4, Value.int IntKind.i64 r5], Value.bool f0v, Value.agg #[Value.slice A0 n0 c0, Value.int IntKind.i64 a0_0, Value.int IntKind.i64 a0_1, Value.int IntKind.i64 a0_2, Value.int IntKind.i64 a0_3, Value.int IntKind.i64 a0_4, Value.int IntKind.i64 a0_5], Value.agg #[Value.slice (some { block := g0_5, off := 0 }) n0 n0, Value.int IntKind.i64 a0_0, Value.int IntKind.i64 a0_1, Value.int IntKind.i64 a0_2, Value.int IntKind.i64 a0_3, Value.int IntKind.i64 a0_4, Value.int IntKind.i64 a0_5], Value.tuple #[Value.agg #[Value.slice (some { block := g0_7, off := 0 }) zs0.length c0_7, Value.int IntKind.i64 r0, Value.int IntKind.i64 r1, Value.int IntKind.i64 r2, Value.int IntKind.i64 r3, Value.int IntKind.i64 r4, Value.int IntKind.i64 r5], Value.bool f0v], Value.agg #[Value.slice (some { block := g0_5, off := 0 }) n0 n0, Value.int IntKind.i64 a0_0, Value.int IntKind.i64 a0_1, Value.int IntKind.i64 a0_2, Value.int IntKind.i64 a0_3, Value.int IntKind.i64 a0_4, Value.int IntKind.i64 a0_5], Value.tuple #[Value.agg #[Value.slice (some { block := g0_7, off := 0 }) zs0.length c0_7, Value.int IntKind.i64 r0, Value.int IntKind.i64 r1, Value.int IntKind.i64 r2, Value.int IntKind.i64 r3, Value.int IntKind.i64 r4, Value.int IntKind.i64 r5], Value.bool f0v], Value.agg #[Value.slice (some { block := g0_7, off := 0 }) zs0.length c0_7, Value.int IntKind.i64 r0, Value.int IntKind.i64 r1, Value.int IntKind.i64 r2, Value.int IntKind.i64 r3, Value.int IntKind.i64 r4, Value.int IntKind.i64 r5], Value.bool f0v, Value.agg #[Value.slice (some { block := g0_7, off := 0 }) zs0.length c0_7, Value.int IntKind.i64 r0, Value.int IntKind.i64 r1, Value.int IntKind.i64 r2, Value.int IntKind.i64 r3, Value.int IntKind.i64 r4, Value.int IntKind.i64 r5], Value.agg #[Value.slice (some { block := g0_3, off := 0 }) zs0.length c0_3, Value.int IntKind.i64 r0, Value.int IntKind.i64 r1, Value.int IntKind.i64 r2, Value.int IntKind.i64 r3, Value.int IntKind.i64 r4, Value.int IntKind.i64 r5], Value.bool true, Value.bool false, Value.bool false, Value.bool f0v, Value.bool f0v, Value.bool false, Value.bool false, f 41, f 42, f 43, f 44, f 45, undef, undef, undef, undef, undef, undef, undef, undef, undef, undef, undef, undef, undef, undef, undef, undef, undef, undef, undef, undef, undef, undef, undef, undef, undef, undef, undef, undef, undef, undef, undef, undef, undef, undef, undef, undef, undef, undef, undef, undef, undef, undef, undef, undef, undef, undef, undef, undef, undef, undef], []⟩ v1 → (JFStrikea B_9 zs0 r0 r1 r2 r3 r4 r5 f0v A0 n0 c0 z0 a0_0 a0_1 a0_2 a0_3 a0_4 a0_5 b_p0 g0_2 c0_3 g0_3 b_l1 g0_5 b_l2 c0_7 g0_7 b_l3) j a' w') → K a' w') → wpOp _ _ _ i K ⟨#[Value.agg #[Value.slice A0 n0 c0, Value.int IntKind.i64 a0_0, Value.int IntKind.i64 a0_1, Value.int IntKind.i64 a0_2, Value.int IntKind.i64 a0_3, Value.int IntKind.i64 a0_4, Value.int IntKind.i64 a0_5], Value.pointer (some { block := b_p0, off := 0 }), Value.bool false, Value.int IntKind.i64 (1048576 - ((n0 : Nat) : Int)), Value.pointer (some { block := b_l1, off := 0 }), Value.bool f0v, Value.pointer (some { block := b_l2, off := 0 }), Value.pointer (some { block := b_l3, off := 0 }), Value.bool f0v, undef, undef, undef, undef, undef, Value.agg #[Value.slice A0 n0 c0, Value.int IntKind.i64 a0_0, Value.int IntKind.i64 a0_1, Value.int IntKind.i64 a0_2, Value.int IntKind.i64 a0_3, Value.int IntKind.i64 a0_4, Value.int IntKind.i64 a0_5], Value.int IntKind.i64 1048576, Value.int IntKind.i64 (1048576 - ((n0 : Nat) : Int)), Value.int IntKind.i64 (1048576 - ((n0 : Nat) : Int)), Value.bool (decide (1048576 - ((n0 : Nat) : Int) < 0)), Value.tuple #[Value.agg #[Value.slice (some { block := g0_3, off := 0 }) zs0.length c0_3, Value.int IntKind.i64 r0, Value.int IntKind.i64 r1, Value.int IntKind.i64 r2, Value.int IntKind.i64 r3, Value.int IntKind.i64 r4, Value.int IntKind.i64 r5], Value.bool f0v], Value.agg #[Value.slice A0 n0 c0, Value.int IntKind.i64 a0_0, Value.int IntKind.i64 a0_1, Value.int IntKind.i64 a0_2, Value.int IntKind.i64 a0_3, Value.int IntKind.i64 a0_4, Value.int IntKind.i64 a0_5], Value.agg #[Value.slice (some { block := g0_2, off := 0 }) n0 n0, Value.int IntKind.i64 a0_0, Value.int IntKind.i64 a0_1, Value.int IntKind.i64 a0_2, Value.int IntKind.i64 a0_3, Value.int IntKind.i64 a0_4, Value.int IntKind.i64 a0_5], Value.tuple #[Value.agg #[Value.slice (some { block := g0_3, off := 0 }) zs0.length c0_3, Value.int IntKind.i64 r0, Value.int IntKind.i64 r1, Value.int IntKind.i64 r2, Value.int IntKind.i64 r3, Value.int IntKind.i64 r4, Value.int IntKind.i64 r5], Value.bool f0v], Value.agg #[Value.slice (some { block := g0_3, off := 0 }) zs0.length c0_3, Value.int IntKind.i64 r0, Value.int IntKind.i64 r1, Value.int IntKind.i64 r2, Value.int IntKind.i64 r3, Value.int IntKind.i64 r4, Value.int IntKind.i64 r5], Value.bool f0v, Value.agg #[Value.slice A0 n0 c0, Value.int IntKind.i64 a0_0, Value.int IntKind.i64 a0_1, Value.int IntKind.i64 a0_2, Value.int IntKind.i64 a0_3, Value.int IntKind.i64 a0_4, Value.int IntKind.i64 a0_5], Value.agg #[Value.slice (some { block := g0_5, off := 0 }) n0 n0, Value.int IntKind.i64 a0_0, Value.int IntKind.i64 a0_1, Value.int IntKind.i64 a0_2, Value.int IntKind.i64 a0_3, Value.int IntKind.i64 a0_4, Value.int IntKind.i64 a0_5], Value.tuple #[Value.agg #[Value.slice (some { block := g0_7, off := 0 }) zs0.length c0_7, Value.int IntKind.i64 r0, Value.int IntKind.i64 r1, Value.int IntKind.i64 r2, Value.int IntKind.i64 r3, Value.int IntKind.i64 r4, Value.int IntKind.i64 r5], Value.bool f0v], Value.agg #[Value.slice (some { block := g0_5, off := 0 }) n0 n0, Value.int IntKind.i64 a0_0, Value.int IntKind.i64 a0_1, Value.int IntKind.i64 a0_2, Value.int IntKind.i64 a0_3, Value.int IntKind.i64 a0_4, Value.int IntKind.i64 a0_5], Value.tuple #[Value.agg #[Value.slice (some { block := g0_7, off := 0 }) zs0.length c0_7, Value.int IntKind.i64 r0, Value.int IntKind.i64 r1, Value.int IntKind.i64 r2, Value.int IntKind.i64 r3, Value.int IntKind.i64 r4, Value.int IntKind.i64 r5], Value.bool f0v], Value.agg #[Value.slice (some { block := g0_7, off := 0 }) zs0.length c0_7, Value.int IntKind.i64 r0, Value.int IntKind.i64 r1, Value.int IntKind.i64 r2, Value.int IntKind.i64 r3, Value.int IntKind.i64 r4, Value.int IntKind.i64 r5], Value.bool f0v, Value.agg #[Value.slice (some { block := g0_7, off := 0 }) zs0.length c0_7, Value.int IntKind.i64 r0, Value.int IntKind.i64 r1, Value.int IntKind.i64 r2, Value.int IntKind.i64 r3, Value.int IntKind.i64 r4, Value.int IntKind.i64 r5], Value.agg #[Value.slice (some { block := g0_3, off := 0 }) zs0.length c0_3, Value.int IntKind.i64 r0, Value.int IntKind.i64 r1, Value.int IntKind.i64 r2, Value.int IntKind.i64 r3, Value.int IntKind.i64 r4, Value.int IntKind.i64 r5], Value.bool true, Value.bool false, Value.bool false, Value.bool f0v, Value.bool f0v, Value.bool false, Value.bool false, f 41, f 42, f 43, f 44, f 45, undef, undef, undef, undef, undef, undef, undef, undef, undef, undef, undef, undef, undef, undef, undef, undef, undef, undef, undef, undef, undef, undef, undef, undef, undef, undef, undef, undef, undef, undef, undef, undef, undef, undef, undef, undef, undef, undef, undef, undef, undef, undef, undef, undef, undef, undef, undef, undef, undef, undef], []⟩ v1 from H _ fun _ _ h => h
    intro K hK
    rcases (by omega : i = 0 ∨ i = 1 ∨ i = 2 ∨ i = 3 ∨ i = 4) with rfl | rfl | rfl | rfl | rfl
    · obtain rfl := Option.some.inj ho
      refine wpOp_plain rfl rfl ?_
      unfold Oper.wp
      go_simp
      exact hK _ _ ⟨⟨⟨updf f 41 (.agg #[.slice (some ⟨g0_5, 0, none⟩) n0 n0, .int .i64 a0_0, .int .i64 a0_1, .int .i64 a0_2, .int .i64 a0_3, .int .i64 a0_4, .int .i64 a0_5]), rfl⟩, hin⟩, rfl, fun j hj hw hf => by
          rcases j with _ | _ | _ | _ | _ | j
          all_goals first | exact absurd rfl hj | exact trivial | (have h9 : _ = _ := hf; exact h9) | exact hf | rfl⟩
    · obtain rfl := Option.some.inj ho
      refine wpOp_plain rfl rfl ?_
      unfold Oper.wp
      go_simp
      exact hK _ _ ⟨⟨⟨updf f 42 (.agg #[.slice A0 n0 c0, .int .i64 a0_0, .int .i64 a0_1, .int .i64 a0_2, .int .i64 a0_3, .int .i64 a0_4, .int .i64 a0_5]), rfl⟩, hin⟩, rfl, fun j hj hw hf => by
          rcases j with _ | _ | _ | _ | _ | j
          all_goals first | exact absurd rfl hj | exact trivial | (have h9 : _ = _ := hf; exact h9) | exact hf | rfl⟩
    · obtain rfl := Option.some.inj ho
      have f1 := haf { on := 1, ground := .data } (by simp) rfl
      have f1 : _ = _ := Option.some.inj f1
      refine wpOp_plain rfl rfl ?_
      unfold Oper.wp
      go_simp
      refine (toBook_w A0 n0 c0 z0 a0_0 a0_1 a0_2 a0_3 a0_4 a0_5 _ (by first | omega | (unfold maxLen; omega)) (R0.out.in_ ((IC.out.trans j_9).trans hin))).mono ?_
      rintro _ v2 ⟨g0_2, rfl, ho0, hg0, hb2⟩
      exact hK _ _ ⟨⟨⟨updf f 43 (.agg #[.slice (some ⟨g0_2, 0, none⟩) n0 n0, .int .i64 a0_0, .int .i64 a0_1, .int .i64 a0_2, .int .i64 a0_3, .int .i64 a0_4, .int .i64 a0_5]), rfl⟩, hin.step hb2⟩, ⟨g0_2, _, rfl, Nat.le_trans (Nat.le_trans hBl_9 hin.size) hg0, ho0⟩, fun j hj hw hf => by
          rcases j with _ | _ | _ | _ | _ | j
          all_goals first | exact absurd rfl hj | exact trivial | (have h9 : _ = _ := hf; exact h9) | (obtain ⟨g0, c0, h0, b0, o0⟩ := hf; exact ⟨g0, c0, h0, b0, o0.step hb2⟩) | exact hf | rfl⟩
    · obtain rfl := Option.some.inj ho
      have f0 := haf { on := 0, ground := .data } (by simp) rfl
      have f0 : _ = _ := Option.some.inj f0
      obtain ⟨g0_2, c0_2, f2, hb20, ho20⟩ := haf { on := 2, ground := .data } (by simp) rfl
      have f2 : _ = _ := Option.some.inj f2
      refine wpOp_plain rfl rfl ?_
      unfold Oper.wp
      go_simp
      refine (eqBook_w (some ⟨g0_5, 0, none⟩) (some ⟨g0_2, 0, none⟩) n0 n0 c0_2 z0 a0_0 a0_1 a0_2 a0_3 a0_4 a0_5 _ (by first | omega | (unfold maxLen; omega)) (ov_X3.reads) (ho20.reads)).mono ?_
      rintro _ v2 ⟨rfl, hb2⟩
      exact hK _ _ ⟨⟨⟨updf f 44 (.bool true), rfl⟩, hin.step hb2⟩, rfl, fun j hj hw hf => by
          rcases j with _ | _ | _ | _ | _ | j
          all_goals first | exact absurd rfl hj | exact trivial | (have h9 : _ = _ := hf; exact h9) | (obtain ⟨g0, c0, h0, b0, o0⟩ := hf; exact ⟨g0, c0, h0, b0, o0.step hb2⟩) | exact hf | rfl⟩
    · obtain rfl := Option.some.inj ho
      have f3 := haf { on := 3, ground := .data } (by simp) rfl
      have f3 : _ = _ := Option.some.inj f3
      refine wpOp_plain rfl rfl ?_
      unfold Oper.wp
      go_simp
      exact hK _ _ ⟨⟨⟨updf f 45 (.bool false), rfl⟩, hin⟩, rfl, fun j hj hw hf => by
          rcases j with _ | _ | _ | _ | _ | j
          all_goals first | exact absurd rfl hj | exact trivial | (have h9 : _ = _ := hf; exact h9) | exact hf | rfl⟩
  intro a w_10 hI hF
  obtain ⟨⟨ha, rfl⟩, hn_10⟩ := hI
  have hb_10 := hn_10.below
  have he_10_45 : ha 45 = _ := Option.some.inj (hF 4 (by decide))
  clear hF
  rw [he_10_45]
  clear he_10_45
  have j_10 : In w_4.heap.size w_4 w_10 := In.step (by (repeat (first | exact In.refl _ | assumption | apply In.alloc | apply In.drewN | apply In.drew | (refine In.step ?_ (by assumption))))) hb_10
  have k_10_p0 : Blk w_10 (b_p0) 45 #[.slice A0 n0 c0, .int .i64 a0_0, .int .i64 a0_1, .int .i64 a0_2, .int .i64 a0_3, .int .i64 a0_4, .int .i64 a0_5] := Blk.step (by (with_reducible (repeat (first | assumption | exact Blk.new' (by simp) | apply Blk.drewN | apply Blk.drew | apply Blk.alloc | (refine Blk.far ?_ (by (try simp) <;> omega) _))))) hb_10
  have c_10_p0_0 : w_10.cell? ⟨b_p0, 0, none⟩ = some (.slice A0 n0 c0) := k_10_p0.cell 0
  have c_10_p0_1 : w_10.cell? ⟨b_p0, 1, none⟩ = some (.int .i64 a0_0) := k_10_p0.cell 1
  have c_10_p0_2 : w_10.cell? ⟨b_p0, 2, none⟩ = some (.int .i64 a0_1) := k_10_p0.cell 2
  have c_10_p0_3 : w_10.cell? ⟨b_p0, 3, none⟩ = some (.int .i64 a0_2) := k_10_p0.cell 3
  have c_10_p0_4 : w_10.cell? ⟨b_p0, 4, none⟩ = some (.int .i64 a0_3) := k_10_p0.cell 4
  have c_10_p0_5 : w_10.cell? ⟨b_p0, 5, none⟩ = some (.int .i64 a0_4) := k_10_p0.cell 5
  have c_10_p0_6 : w_10.cell? ⟨b_p0, 6, none⟩ = some (.int .i64 a0_5) := k_10_p0.cell 6
  have l_10_p0 := k_10_p0.lt
  have k_10_l1 : Blk w_10 (b_l1) 51 #[.slice (some ⟨g0_3, 0, none⟩) zs0.length c0_3, .int .i64 r0, .int .i64 r1, .int .i64 r2, .int .i64 r3, .int .i64 r4, .int .i64 r5] := Blk.step (by (with_reducible (repeat (first | assumption | exact Blk.new' (by simp) | apply Blk.drewN | apply Blk.drew | apply Blk.alloc | (refine Blk.far ?_ (by (try simp) <;> omega) _))))) hb_10
  have c_10_l1_0 : w_10.cell? ⟨b_l1, 0, none⟩ = some (.slice (some ⟨g0_3, 0, none⟩) zs0.length c0_3) := k_10_l1.cell 0
  have c_10_l1_1 : w_10.cell? ⟨b_l1, 1, none⟩ = some (.int .i64 r0) := k_10_l1.cell 1
  have c_10_l1_2 : w_10.cell? ⟨b_l1, 2, none⟩ = some (.int .i64 r1) := k_10_l1.cell 2
  have c_10_l1_3 : w_10.cell? ⟨b_l1, 3, none⟩ = some (.int .i64 r2) := k_10_l1.cell 3
  have c_10_l1_4 : w_10.cell? ⟨b_l1, 4, none⟩ = some (.int .i64 r3) := k_10_l1.cell 4
  have c_10_l1_5 : w_10.cell? ⟨b_l1, 5, none⟩ = some (.int .i64 r4) := k_10_l1.cell 5
  have c_10_l1_6 : w_10.cell? ⟨b_l1, 6, none⟩ = some (.int .i64 r5) := k_10_l1.cell 6
  have l_10_l1 := k_10_l1.lt
  have k_10_l2 : Blk w_10 (b_l2) 51 #[.slice (some ⟨g0_5, 0, none⟩) n0 n0, .int .i64 a0_0, .int .i64 a0_1, .int .i64 a0_2, .int .i64 a0_3, .int .i64 a0_4, .int .i64 a0_5] := Blk.step (by (with_reducible (repeat (first | assumption | exact Blk.new' (by simp) | apply Blk.drewN | apply Blk.drew | apply Blk.alloc | (refine Blk.far ?_ (by (try simp) <;> omega) _))))) hb_10
  have c_10_l2_0 : w_10.cell? ⟨b_l2, 0, none⟩ = some (.slice (some ⟨g0_5, 0, none⟩) n0 n0) := k_10_l2.cell 0
  have c_10_l2_1 : w_10.cell? ⟨b_l2, 1, none⟩ = some (.int .i64 a0_0) := k_10_l2.cell 1
  have c_10_l2_2 : w_10.cell? ⟨b_l2, 2, none⟩ = some (.int .i64 a0_1) := k_10_l2.cell 2
  have c_10_l2_3 : w_10.cell? ⟨b_l2, 3, none⟩ = some (.int .i64 a0_2) := k_10_l2.cell 3
  have c_10_l2_4 : w_10.cell? ⟨b_l2, 4, none⟩ = some (.int .i64 a0_3) := k_10_l2.cell 4
  have c_10_l2_5 : w_10.cell? ⟨b_l2, 5, none⟩ = some (.int .i64 a0_4) := k_10_l2.cell 5
  have c_10_l2_6 : w_10.cell? ⟨b_l2, 6, none⟩ = some (.int .i64 a0_5) := k_10_l2.cell 6
  have l_10_l2 := k_10_l2.lt
  have k_10_l3 : Blk w_10 (b_l3) 51 #[.slice (some ⟨g0_7, 0, none⟩) zs0.length c0_7, .int .i64 r0, .int .i64 r1, .int .i64 r2, .int .i64 r3, .int .i64 r4, .int .i64 r5] := Blk.step (by (with_reducible (repeat (first | assumption | exact Blk.new' (by simp) | apply Blk.drewN | apply Blk.drew | apply Blk.alloc | (refine Blk.far ?_ (by (try simp) <;> omega) _))))) hb_10
  have c_10_l3_0 : w_10.cell? ⟨b_l3, 0, none⟩ = some (.slice (some ⟨g0_7, 0, none⟩) zs0.length c0_7) := k_10_l3.cell 0
  have c_10_l3_1 : w_10.cell? ⟨b_l3, 1, none⟩ = some (.int .i64 r0) := k_10_l3.cell 1
  have c_10_l3_2 : w_10.cell? ⟨b_l3, 2, none⟩ = some (.int .i64 r1) := k_10_l3.cell 2
  have c_10_l3_3 : w_10.cell? ⟨b_l3, 3, none⟩ = some (.int .i64 r2) := k_10_l3.cell 3
  have c_10_l3_4 : w_10.cell? ⟨b_l3, 4, none⟩ = some (.int .i64 r3) := k_10_l3.cell 4
  have c_10_l3_5 : w_10.cell? ⟨b_l3, 5, none⟩ = some (.int .i64 r4) := k_10_l3.cell 5
  have c_10_l3_6 : w_10.cell? ⟨b_l3, 6, none⟩ = some (.int .i64 r5) := k_10_l3.cell 6
  have l_10_l3 := k_10_l3.lt
  have o_10_X3 : OCEvent w_10 g0_5 n0 n0 z0 := OCEvent.step (by with_reducible (repeat (first | assumption | apply OCEvent.drewN | apply OCEvent.drew | apply OCEvent.alloc))) hb_10
  have o_10_X4 : OCEvent w_10 g0_7 zs0.length c0_7 zs0 := OCEvent.step (by with_reducible (repeat (first | assumption | apply OCEvent.drewN | apply OCEvent.drew | apply OCEvent.alloc))) hb_10
  clear j_9 k_9_p0 c_9_p0_0 c_9_p0_1 c_9_p0_2 c_9_p0_3 c_9_p0_4 c_9_p0_5 c_9_p0_6 l_9_p0 k_9_l1 c_9_l1_0 c_9_l1_1 c_9_l1_2 c_9_l1_3 c_9_l1_4 c_9_l1_5 c_9_l1_6 l_9_l1 k_9_l2 c_9_l2_0 c_9_l2_1 c_9_l2_2 c_9_l2_3 c_9_l2_4 c_9_l2_5 c_9_l2_6 l_9_l2 k_9_l3 c_9_l3_0 c_9_l3_1 c_9_l3_2 c_9_l3_3 c_9_l3_4 c_9_l3_5 c_9_l3_6 l_9_l3 o_9_X3 o_9_X4 hb_9
  clear hn_10
  clear hBl_9 hBg_9
  go_wp2_with fail
  refine (markBook_w g0_5 n0 n0 z0 a0_0 a0_1 a0_2 a0_3 a0_4 a0_5 (1) _ (by omega) (by omega) (by with_reducible (repeat (first | assumption | apply OCEvent.drewN | apply OCEvent.drew | apply OCEvent.alloc)))).mono ?_
  rintro _ w_11 ⟨rfl, ho_11, hb_11⟩
  have o_11_X3 : OCEvent w_11 g0_5 n0 n0 (marksEvent (1) n0) := ho_11
  clear ho_11
  have j_11 : In w_4.heap.size w_4 w_11 := In.wide (by (repeat (first | exact In.refl _ | assumption | apply In.alloc | apply In.drewN | apply In.drew | (refine In.step ?_ (by assumption))))) (below_of_only hb_11 GX_X3.out (In.size (B := w_4.heap.size) (a := w_4) (by (repeat (first | exact In.refl _ | assumption | apply In.alloc | apply In.drewN | apply In.drew | (refine In.step ?_ (by assumption)))))))
  have k_11_p0 : Blk w_11 (b_p0) 45 #[.slice A0 n0 c0, .int .i64 a0_0, .int .i64 a0_1, .int .i64 a0_2, .int .i64 a0_3, .int .i64 a0_4, .int .i64 a0_5] := Blk.grown k_10_p0 hb_11 (fun h => (OCEvent.ne o_10_X3 k_10_p0 (by decide)) (Option.some.inj h).symm)
  have c_11_p0_0 : w_11.cell? ⟨b_p0, 0, none⟩ = some (.slice A0 n0 c0) := k_11_p0.cell 0
  have c_11_p0_1 : w_11.cell? ⟨b_p0, 1, none⟩ = some (.int .i64 a0_0) := k_11_p0.cell 1
  have c_11_p0_2 : w_11.cell? ⟨b_p0, 2, none⟩ = some (.int .i64 a0_1) := k_11_p0.cell 2
  have c_11_p0_3 : w_11.cell? ⟨b_p0, 3, none⟩ = some (.int .i64 a0_2) := k_11_p0.cell 3
  have c_11_p0_4 : w_11.cell? ⟨b_p0, 4, none⟩ = some (.int .i64 a0_3) := k_11_p0.cell 4
  have c_11_p0_5 : w_11.cell? ⟨b_p0, 5, none⟩ = some (.int .i64 a0_4) := k_11_p0.cell 5
  have c_11_p0_6 : w_11.cell? ⟨b_p0, 6, none⟩ = some (.int .i64 a0_5) := k_11_p0.cell 6
  have l_11_p0 := k_11_p0.lt
  have k_11_l1 : Blk w_11 (b_l1) 51 #[.slice (some ⟨g0_3, 0, none⟩) zs0.length c0_3, .int .i64 r0, .int .i64 r1, .int .i64 r2, .int .i64 r3, .int .i64 r4, .int .i64 r5] := Blk.grown k_10_l1 hb_11 (fun h => (OCEvent.ne o_10_X3 k_10_l1 (by decide)) (Option.some.inj h).symm)
  have c_11_l1_0 : w_11.cell? ⟨b_l1, 0, none⟩ = some (.slice (some ⟨g0_3, 0, none⟩) zs0.length c0_3) := k_11_l1.cell 0
  have c_11_l1_1 : w_11.cell? ⟨b_l1, 1, none⟩ = some (.int .i64 r0) := k_11_l1.cell 1
  have c_11_l1_2 : w_11.cell? ⟨b_l1, 2, none⟩ = some (.int .i64 r1) := k_11_l1.cell 2
  have c_11_l1_3 : w_11.cell? ⟨b_l1, 3, none⟩ = some (.int .i64 r2) := k_11_l1.cell 3
  have c_11_l1_4 : w_11.cell? ⟨b_l1, 4, none⟩ = some (.int .i64 r3) := k_11_l1.cell 4
  have c_11_l1_5 : w_11.cell? ⟨b_l1, 5, none⟩ = some (.int .i64 r4) := k_11_l1.cell 5
  have c_11_l1_6 : w_11.cell? ⟨b_l1, 6, none⟩ = some (.int .i64 r5) := k_11_l1.cell 6
  have l_11_l1 := k_11_l1.lt
  have k_11_l2 : Blk w_11 (b_l2) 51 #[.slice (some ⟨g0_5, 0, none⟩) n0 n0, .int .i64 a0_0, .int .i64 a0_1, .int .i64 a0_2, .int .i64 a0_3, .int .i64 a0_4, .int .i64 a0_5] := Blk.grown k_10_l2 hb_11 (fun h => (OCEvent.ne o_10_X3 k_10_l2 (by decide)) (Option.some.inj h).symm)
  have c_11_l2_0 : w_11.cell? ⟨b_l2, 0, none⟩ = some (.slice (some ⟨g0_5, 0, none⟩) n0 n0) := k_11_l2.cell 0
  have c_11_l2_1 : w_11.cell? ⟨b_l2, 1, none⟩ = some (.int .i64 a0_0) := k_11_l2.cell 1
  have c_11_l2_2 : w_11.cell? ⟨b_l2, 2, none⟩ = some (.int .i64 a0_1) := k_11_l2.cell 2
  have c_11_l2_3 : w_11.cell? ⟨b_l2, 3, none⟩ = some (.int .i64 a0_2) := k_11_l2.cell 3
  have c_11_l2_4 : w_11.cell? ⟨b_l2, 4, none⟩ = some (.int .i64 a0_3) := k_11_l2.cell 4
  have c_11_l2_5 : w_11.cell? ⟨b_l2, 5, none⟩ = some (.int .i64 a0_4) := k_11_l2.cell 5
  have c_11_l2_6 : w_11.cell? ⟨b_l2, 6, none⟩ = some (.int .i64 a0_5) := k_11_l2.cell 6
  have l_11_l2 := k_11_l2.lt
  have k_11_l3 : Blk w_11 (b_l3) 51 #[.slice (some ⟨g0_7, 0, none⟩) zs0.length c0_7, .int .i64 r0, .int .i64 r1, .int .i64 r2, .int .i64 r3, .int .i64 r4, .int .i64 r5] := Blk.grown k_10_l3 hb_11 (fun h => (OCEvent.ne o_10_X3 k_10_l3 (by decide)) (Option.some.inj h).symm)
  have c_11_l3_0 : w_11.cell? ⟨b_l3, 0, none⟩ = some (.slice (some ⟨g0_7, 0, none⟩) zs0.length c0_7) := k_11_l3.cell 0
  have c_11_l3_1 : w_11.cell? ⟨b_l3, 1, none⟩ = some (.int .i64 r0) := k_11_l3.cell 1
  have c_11_l3_2 : w_11.cell? ⟨b_l3, 2, none⟩ = some (.int .i64 r1) := k_11_l3.cell 2
  have c_11_l3_3 : w_11.cell? ⟨b_l3, 3, none⟩ = some (.int .i64 r2) := k_11_l3.cell 3
  have c_11_l3_4 : w_11.cell? ⟨b_l3, 4, none⟩ = some (.int .i64 r3) := k_11_l3.cell 4
  have c_11_l3_5 : w_11.cell? ⟨b_l3, 5, none⟩ = some (.int .i64 r4) := k_11_l3.cell 5
  have c_11_l3_6 : w_11.cell? ⟨b_l3, 6, none⟩ = some (.int .i64 r5) := k_11_l3.cell 6
  have l_11_l3 := k_11_l3.lt
  have o_11_X4 : OCEvent w_11 g0_7 zs0.length c0_7 zs0 := OCEvent.only (by with_reducible (repeat (first | assumption | apply OCEvent.drewN | apply OCEvent.drew | apply OCEvent.alloc))) hb_11 (by first | exact NE_X4_X3.out | exact NE_X3_X4.out.symm)
  clear j_10 k_10_p0 c_10_p0_0 c_10_p0_1 c_10_p0_2 c_10_p0_3 c_10_p0_4 c_10_p0_5 c_10_p0_6 l_10_p0 k_10_l1 c_10_l1_0 c_10_l1_1 c_10_l1_2 c_10_l1_3 c_10_l1_4 c_10_l1_5 c_10_l1_6 l_10_l1 k_10_l2 c_10_l2_0 c_10_l2_1 c_10_l2_2 c_10_l2_3 c_10_l2_4 c_10_l2_5 c_10_l2_6 l_10_l2 k_10_l3 c_10_l3_0 c_10_l3_1 c_10_l3_2 c_10_l3_3 c_10_l3_4 c_10_l3_5 c_10_l3_6 l_10_l3 o_10_X3 o_10_X4 hb_10
  go_wp2_with fail
  refine (eqBook_w (some ⟨g0_7, 0, none⟩) (some ⟨g0_3, 0, none⟩) zs0.length c0_7 c0_3 zs0 r0 r1 r2 r3 r4 r5 _ (by first | omega | (unfold maxLen; omega)) (OCEvent.reads (by with_reducible (repeat (first | assumption | apply OCEvent.drewN | apply OCEvent.drew | apply OCEvent.alloc)))) (HW0.out.in_ (by (repeat (first | exact In.refl _ | assumption | apply In.alloc | apply In.drewN | apply In.drew | (refine In.step ?_ (by assumption))))))).mono ?_
  rintro _ w_12 ⟨rfl, hb_12⟩
  have j_12 : In w_4.heap.size w_4 w_12 := In.step (by (repeat (first | exact In.refl _ | assumption | apply In.alloc | apply In.drewN | apply In.drew | (refine In.step ?_ (by assumption))))) hb_12
  have k_12_p0 : Blk w_12 (b_p0) 45 #[.slice A0 n0 c0, .int .i64 a0_0, .int .i64 a0_1, .int .i64 a0_2, .int .i64 a0_3, .int .i64 a0_4, .int .i64 a0_5] := Blk.step (by (with_reducible (repeat (first | assumption | exact Blk.new' (by simp) | apply Blk.drewN | apply Blk.drew | apply Blk.alloc | (refine Blk.far ?_ (by (try simp) <;> omega) _))))) hb_12
  have c_12_p0_0 : w_12.cell? ⟨b_p0, 0, none⟩ = some (.slice A0 n0 c0) := k_12_p0.cell 0
  have c_12_p0_1 : w_12.cell? ⟨b_p0, 1, none⟩ = some (.int .i64 a0_0) := k_12_p0.cell 1
  have c_12_p0_2 : w_12.cell? ⟨b_p0, 2, none⟩ = some (.int .i64 a0_1) := k_12_p0.cell 2
  have c_12_p0_3 : w_12.cell? ⟨b_p0, 3, none⟩ = some (.int .i64 a0_2) := k_12_p0.cell 3
  have c_12_p0_4 : w_12.cell? ⟨b_p0, 4, none⟩ = some (.int .i64 a0_3) := k_12_p0.cell 4
  have c_12_p0_5 : w_12.cell? ⟨b_p0, 5, none⟩ = some (.int .i64 a0_4) := k_12_p0.cell 5
  have c_12_p0_6 : w_12.cell? ⟨b_p0, 6, none⟩ = some (.int .i64 a0_5) := k_12_p0.cell 6
  have l_12_p0 := k_12_p0.lt
  have k_12_l1 : Blk w_12 (b_l1) 51 #[.slice (some ⟨g0_3, 0, none⟩) zs0.length c0_3, .int .i64 r0, .int .i64 r1, .int .i64 r2, .int .i64 r3, .int .i64 r4, .int .i64 r5] := Blk.step (by (with_reducible (repeat (first | assumption | exact Blk.new' (by simp) | apply Blk.drewN | apply Blk.drew | apply Blk.alloc | (refine Blk.far ?_ (by (try simp) <;> omega) _))))) hb_12
  have c_12_l1_0 : w_12.cell? ⟨b_l1, 0, none⟩ = some (.slice (some ⟨g0_3, 0, none⟩) zs0.length c0_3) := k_12_l1.cell 0
  have c_12_l1_1 : w_12.cell? ⟨b_l1, 1, none⟩ = some (.int .i64 r0) := k_12_l1.cell 1
  have c_12_l1_2 : w_12.cell? ⟨b_l1, 2, none⟩ = some (.int .i64 r1) := k_12_l1.cell 2
  have c_12_l1_3 : w_12.cell? ⟨b_l1, 3, none⟩ = some (.int .i64 r2) := k_12_l1.cell 3
  have c_12_l1_4 : w_12.cell? ⟨b_l1, 4, none⟩ = some (.int .i64 r3) := k_12_l1.cell 4
  have c_12_l1_5 : w_12.cell? ⟨b_l1, 5, none⟩ = some (.int .i64 r4) := k_12_l1.cell 5
  have c_12_l1_6 : w_12.cell? ⟨b_l1, 6, none⟩ = some (.int .i64 r5) := k_12_l1.cell 6
  have l_12_l1 := k_12_l1.lt
  have k_12_l2 : Blk w_12 (b_l2) 51 #[.slice (some ⟨g0_5, 0, none⟩) n0 n0, .int .i64 a0_0, .int .i64 a0_1, .int .i64 a0_2, .int .i64 a0_3, .int .i64 a0_4, .int .i64 a0_5] := Blk.step (by (with_reducible (repeat (first | assumption | exact Blk.new' (by simp) | apply Blk.drewN | apply Blk.drew | apply Blk.alloc | (refine Blk.far ?_ (by (try simp) <;> omega) _))))) hb_12
  have c_12_l2_0 : w_12.cell? ⟨b_l2, 0, none⟩ = some (.slice (some ⟨g0_5, 0, none⟩) n0 n0) := k_12_l2.cell 0
  have c_12_l2_1 : w_12.cell? ⟨b_l2, 1, none⟩ = some (.int .i64 a0_0) := k_12_l2.cell 1
  have c_12_l2_2 : w_12.cell? ⟨b_l2, 2, none⟩ = some (.int .i64 a0_1) := k_12_l2.cell 2
  have c_12_l2_3 : w_12.cell? ⟨b_l2, 3, none⟩ = some (.int .i64 a0_2) := k_12_l2.cell 3
  have c_12_l2_4 : w_12.cell? ⟨b_l2, 4, none⟩ = some (.int .i64 a0_3) := k_12_l2.cell 4
  have c_12_l2_5 : w_12.cell? ⟨b_l2, 5, none⟩ = some (.int .i64 a0_4) := k_12_l2.cell 5
  have c_12_l2_6 : w_12.cell? ⟨b_l2, 6, none⟩ = some (.int .i64 a0_5) := k_12_l2.cell 6
  have l_12_l2 := k_12_l2.lt
  have k_12_l3 : Blk w_12 (b_l3) 51 #[.slice (some ⟨g0_7, 0, none⟩) zs0.length c0_7, .int .i64 r0, .int .i64 r1, .int .i64 r2, .int .i64 r3, .int .i64 r4, .int .i64 r5] := Blk.step (by (with_reducible (repeat (first | assumption | exact Blk.new' (by simp) | apply Blk.drewN | apply Blk.drew | apply Blk.alloc | (refine Blk.far ?_ (by (try simp) <;> omega) _))))) hb_12
  have c_12_l3_0 : w_12.cell? ⟨b_l3, 0, none⟩ = some (.slice (some ⟨g0_7, 0, none⟩) zs0.length c0_7) := k_12_l3.cell 0
  have c_12_l3_1 : w_12.cell? ⟨b_l3, 1, none⟩ = some (.int .i64 r0) := k_12_l3.cell 1
  have c_12_l3_2 : w_12.cell? ⟨b_l3, 2, none⟩ = some (.int .i64 r1) := k_12_l3.cell 2
  have c_12_l3_3 : w_12.cell? ⟨b_l3, 3, none⟩ = some (.int .i64 r2) := k_12_l3.cell 3
  have c_12_l3_4 : w_12.cell? ⟨b_l3, 4, none⟩ = some (.int .i64 r3) := k_12_l3.cell 4
  have c_12_l3_5 : w_12.cell? ⟨b_l3, 5, none⟩ = some (.int .i64 r4) := k_12_l3.cell 5
  have c_12_l3_6 : w_12.cell? ⟨b_l3, 6, none⟩ = some (.int .i64 r5) := k_12_l3.cell 6
  have l_12_l3 := k_12_l3.lt
  have o_12_X3 : OCEvent w_12 g0_5 n0 n0 (marksEvent (1) n0) := OCEvent.step (by with_reducible (repeat (first | assumption | apply OCEvent.drewN | apply OCEvent.drew | apply OCEvent.alloc))) hb_12
  have o_12_X4 : OCEvent w_12 g0_7 zs0.length c0_7 zs0 := OCEvent.step (by with_reducible (repeat (first | assumption | apply OCEvent.drewN | apply OCEvent.drew | apply OCEvent.alloc))) hb_12
  clear j_11 k_11_p0 c_11_p0_0 c_11_p0_1 c_11_p0_2 c_11_p0_3 c_11_p0_4 c_11_p0_5 c_11_p0_6 l_11_p0 k_11_l1 c_11_l1_0 c_11_l1_1 c_11_l1_2 c_11_l1_3 c_11_l1_4 c_11_l1_5 c_11_l1_6 l_11_l1 k_11_l2 c_11_l2_0 c_11_l2_1 c_11_l2_2 c_11_l2_3 c_11_l2_4 c_11_l2_5 c_11_l2_6 l_11_l2 k_11_l3 c_11_l3_0 c_11_l3_1 c_11_l3_2 c_11_l3_3 c_11_l3_4 c_11_l3_5 c_11_l3_6 l_11_l3 o_11_X3 o_11_X4 hb_11
  go_wp2_with fail
  refine (markBook_w g0_7 zs0.length c0_7 zs0 r0 r1 r2 r3 r4 r5 (1) _ (by omega) (by omega) (by with_reducible (repeat (first | assumption | apply OCEvent.drewN | apply OCEvent.drew | apply OCEvent.alloc)))).mono ?_
  rintro _ w_13 ⟨rfl, ho_13, hb_13⟩
  have o_13_X4 : OCEvent w_13 g0_7 zs0.length c0_7 (marksEvent (1) zs0.length) := ho_13
  clear ho_13
  have j_13 : In w_4.heap.size w_4 w_13 := In.wide (by (repeat (first | exact In.refl _ | assumption | apply In.alloc | apply In.drewN | apply In.drew | (refine In.step ?_ (by assumption))))) (below_of_only hb_13 GX_X4.out (In.size (B := w_4.heap.size) (a := w_4) (by (repeat (first | exact In.refl _ | assumption | apply In.alloc | apply In.drewN | apply In.drew | (refine In.step ?_ (by assumption)))))))
  have k_13_p0 : Blk w_13 (b_p0) 45 #[.slice A0 n0 c0, .int .i64 a0_0, .int .i64 a0_1, .int .i64 a0_2, .int .i64 a0_3, .int .i64 a0_4, .int .i64 a0_5] := Blk.grown k_12_p0 hb_13 (fun h => (OCEvent.ne o_12_X4 k_12_p0 (by decide)) (Option.some.inj h).symm)
  have c_13_p0_0 : w_13.cell? ⟨b_p0, 0, none⟩ = some (.slice A0 n0 c0) := k_13_p0.cell 0
  have c_13_p0_1 : w_13.cell? ⟨b_p0, 1, none⟩ = some (.int .i64 a0_0) := k_13_p0.cell 1
  have c_13_p0_2 : w_13.cell? ⟨b_p0, 2, none⟩ = some (.int .i64 a0_1) := k_13_p0.cell 2
  have c_13_p0_3 : w_13.cell? ⟨b_p0, 3, none⟩ = some (.int .i64 a0_2) := k_13_p0.cell 3
  have c_13_p0_4 : w_13.cell? ⟨b_p0, 4, none⟩ = some (.int .i64 a0_3) := k_13_p0.cell 4
  have c_13_p0_5 : w_13.cell? ⟨b_p0, 5, none⟩ = some (.int .i64 a0_4) := k_13_p0.cell 5
  have c_13_p0_6 : w_13.cell? ⟨b_p0, 6, none⟩ = some (.int .i64 a0_5) := k_13_p0.cell 6
  have l_13_p0 := k_13_p0.lt
  have k_13_l1 : Blk w_13 (b_l1) 51 #[.slice (some ⟨g0_3, 0, none⟩) zs0.length c0_3, .int .i64 r0, .int .i64 r1, .int .i64 r2, .int .i64 r3, .int .i64 r4, .int .i64 r5] := Blk.grown k_12_l1 hb_13 (fun h => (OCEvent.ne o_12_X4 k_12_l1 (by decide)) (Option.some.inj h).symm)
  have c_13_l1_0 : w_13.cell? ⟨b_l1, 0, none⟩ = some (.slice (some ⟨g0_3, 0, none⟩) zs0.length c0_3) := k_13_l1.cell 0
  have c_13_l1_1 : w_13.cell? ⟨b_l1, 1, none⟩ = some (.int .i64 r0) := k_13_l1.cell 1
  have c_13_l1_2 : w_13.cell? ⟨b_l1, 2, none⟩ = some (.int .i64 r1) := k_13_l1.cell 2
  have c_13_l1_3 : w_13.cell? ⟨b_l1, 3, none⟩ = some (.int .i64 r2) := k_13_l1.cell 3
  have c_13_l1_4 : w_13.cell? ⟨b_l1, 4, none⟩ = some (.int .i64 r3) := k_13_l1.cell 4
  have c_13_l1_5 : w_13.cell? ⟨b_l1, 5, none⟩ = some (.int .i64 r4) := k_13_l1.cell 5
  have c_13_l1_6 : w_13.cell? ⟨b_l1, 6, none⟩ = some (.int .i64 r5) := k_13_l1.cell 6
  have l_13_l1 := k_13_l1.lt
  have k_13_l2 : Blk w_13 (b_l2) 51 #[.slice (some ⟨g0_5, 0, none⟩) n0 n0, .int .i64 a0_0, .int .i64 a0_1, .int .i64 a0_2, .int .i64 a0_3, .int .i64 a0_4, .int .i64 a0_5] := Blk.grown k_12_l2 hb_13 (fun h => (OCEvent.ne o_12_X4 k_12_l2 (by decide)) (Option.some.inj h).symm)
  have c_13_l2_0 : w_13.cell? ⟨b_l2, 0, none⟩ = some (.slice (some ⟨g0_5, 0, none⟩) n0 n0) := k_13_l2.cell 0
  have c_13_l2_1 : w_13.cell? ⟨b_l2, 1, none⟩ = some (.int .i64 a0_0) := k_13_l2.cell 1
  have c_13_l2_2 : w_13.cell? ⟨b_l2, 2, none⟩ = some (.int .i64 a0_1) := k_13_l2.cell 2
  have c_13_l2_3 : w_13.cell? ⟨b_l2, 3, none⟩ = some (.int .i64 a0_2) := k_13_l2.cell 3
  have c_13_l2_4 : w_13.cell? ⟨b_l2, 4, none⟩ = some (.int .i64 a0_3) := k_13_l2.cell 4
  have c_13_l2_5 : w_13.cell? ⟨b_l2, 5, none⟩ = some (.int .i64 a0_4) := k_13_l2.cell 5
  have c_13_l2_6 : w_13.cell? ⟨b_l2, 6, none⟩ = some (.int .i64 a0_5) := k_13_l2.cell 6
  have l_13_l2 := k_13_l2.lt
  have k_13_l3 : Blk w_13 (b_l3) 51 #[.slice (some ⟨g0_7, 0, none⟩) zs0.length c0_7, .int .i64 r0, .int .i64 r1, .int .i64 r2, .int .i64 r3, .int .i64 r4, .int .i64 r5] := Blk.grown k_12_l3 hb_13 (fun h => (OCEvent.ne o_12_X4 k_12_l3 (by decide)) (Option.some.inj h).symm)
  have c_13_l3_0 : w_13.cell? ⟨b_l3, 0, none⟩ = some (.slice (some ⟨g0_7, 0, none⟩) zs0.length c0_7) := k_13_l3.cell 0
  have c_13_l3_1 : w_13.cell? ⟨b_l3, 1, none⟩ = some (.int .i64 r0) := k_13_l3.cell 1
  have c_13_l3_2 : w_13.cell? ⟨b_l3, 2, none⟩ = some (.int .i64 r1) := k_13_l3.cell 2
  have c_13_l3_3 : w_13.cell? ⟨b_l3, 3, none⟩ = some (.int .i64 r2) := k_13_l3.cell 3
  have c_13_l3_4 : w_13.cell? ⟨b_l3, 4, none⟩ = some (.int .i64 r3) := k_13_l3.cell 4
  have c_13_l3_5 : w_13.cell? ⟨b_l3, 5, none⟩ = some (.int .i64 r4) := k_13_l3.cell 5
  have c_13_l3_6 : w_13.cell? ⟨b_l3, 6, none⟩ = some (.int .i64 r5) := k_13_l3.cell 6
  have l_13_l3 := k_13_l3.lt
  have o_13_X3 : OCEvent w_13 g0_5 n0 n0 (marksEvent (1) n0) := OCEvent.only (by with_reducible (repeat (first | assumption | apply OCEvent.drewN | apply OCEvent.drew | apply OCEvent.alloc))) hb_13 (by first | exact NE_X3_X4.out | exact NE_X4_X3.out.symm)
  clear j_12 k_12_p0 c_12_p0_0 c_12_p0_1 c_12_p0_2 c_12_p0_3 c_12_p0_4 c_12_p0_5 c_12_p0_6 l_12_p0 k_12_l1 c_12_l1_0 c_12_l1_1 c_12_l1_2 c_12_l1_3 c_12_l1_4 c_12_l1_5 c_12_l1_6 l_12_l1 k_12_l2 c_12_l2_0 c_12_l2_1 c_12_l2_2 c_12_l2_3 c_12_l2_4 c_12_l2_5 c_12_l2_6 l_12_l2 k_12_l3 c_12_l3_0 c_12_l3_1 c_12_l3_2 c_12_l3_3 c_12_l3_4 c_12_l3_5 c_12_l3_6 l_12_l3 o_12_X3 o_12_X4 hb_12
  go_wp2_with fail
  refine (heldBook_w (some ⟨g0_7, 0, none⟩) zs0.length c0_7 r0 r1 r2 r3 r4 r5 (1) _ (by omega) (by omega) (OCEvent.reads (by with_reducible (repeat (first | assumption | apply OCEvent.drewN | apply OCEvent.drew | apply OCEvent.alloc))))).mono ?_
  rintro _ w_14 ⟨rfl, hb_14⟩
  have j_14 : In w_4.heap.size w_4 w_14 := In.step (by (repeat (first | exact In.refl _ | assumption | apply In.alloc | apply In.drewN | apply In.drew | (refine In.step ?_ (by assumption))))) hb_14
  have k_14_p0 : Blk w_14 (b_p0) 45 #[.slice A0 n0 c0, .int .i64 a0_0, .int .i64 a0_1, .int .i64 a0_2, .int .i64 a0_3, .int .i64 a0_4, .int .i64 a0_5] := Blk.step (by (with_reducible (repeat (first | assumption | exact Blk.new' (by simp) | apply Blk.drewN | apply Blk.drew | apply Blk.alloc | (refine Blk.far ?_ (by (try simp) <;> omega) _))))) hb_14
  have c_14_p0_0 : w_14.cell? ⟨b_p0, 0, none⟩ = some (.slice A0 n0 c0) := k_14_p0.cell 0
  have c_14_p0_1 : w_14.cell? ⟨b_p0, 1, none⟩ = some (.int .i64 a0_0) := k_14_p0.cell 1
  have c_14_p0_2 : w_14.cell? ⟨b_p0, 2, none⟩ = some (.int .i64 a0_1) := k_14_p0.cell 2
  have c_14_p0_3 : w_14.cell? ⟨b_p0, 3, none⟩ = some (.int .i64 a0_2) := k_14_p0.cell 3
  have c_14_p0_4 : w_14.cell? ⟨b_p0, 4, none⟩ = some (.int .i64 a0_3) := k_14_p0.cell 4
  have c_14_p0_5 : w_14.cell? ⟨b_p0, 5, none⟩ = some (.int .i64 a0_4) := k_14_p0.cell 5
  have c_14_p0_6 : w_14.cell? ⟨b_p0, 6, none⟩ = some (.int .i64 a0_5) := k_14_p0.cell 6
  have l_14_p0 := k_14_p0.lt
  have k_14_l1 : Blk w_14 (b_l1) 51 #[.slice (some ⟨g0_3, 0, none⟩) zs0.length c0_3, .int .i64 r0, .int .i64 r1, .int .i64 r2, .int .i64 r3, .int .i64 r4, .int .i64 r5] := Blk.step (by (with_reducible (repeat (first | assumption | exact Blk.new' (by simp) | apply Blk.drewN | apply Blk.drew | apply Blk.alloc | (refine Blk.far ?_ (by (try simp) <;> omega) _))))) hb_14
  have c_14_l1_0 : w_14.cell? ⟨b_l1, 0, none⟩ = some (.slice (some ⟨g0_3, 0, none⟩) zs0.length c0_3) := k_14_l1.cell 0
  have c_14_l1_1 : w_14.cell? ⟨b_l1, 1, none⟩ = some (.int .i64 r0) := k_14_l1.cell 1
  have c_14_l1_2 : w_14.cell? ⟨b_l1, 2, none⟩ = some (.int .i64 r1) := k_14_l1.cell 2
  have c_14_l1_3 : w_14.cell? ⟨b_l1, 3, none⟩ = some (.int .i64 r2) := k_14_l1.cell 3
  have c_14_l1_4 : w_14.cell? ⟨b_l1, 4, none⟩ = some (.int .i64 r3) := k_14_l1.cell 4
  have c_14_l1_5 : w_14.cell? ⟨b_l1, 5, none⟩ = some (.int .i64 r4) := k_14_l1.cell 5
  have c_14_l1_6 : w_14.cell? ⟨b_l1, 6, none⟩ = some (.int .i64 r5) := k_14_l1.cell 6
  have l_14_l1 := k_14_l1.lt
  have k_14_l2 : Blk w_14 (b_l2) 51 #[.slice (some ⟨g0_5, 0, none⟩) n0 n0, .int .i64 a0_0, .int .i64 a0_1, .int .i64 a0_2, .int .i64 a0_3, .int .i64 a0_4, .int .i64 a0_5] := Blk.step (by (with_reducible (repeat (first | assumption | exact Blk.new' (by simp) | apply Blk.drewN | apply Blk.drew | apply Blk.alloc | (refine Blk.far ?_ (by (try simp) <;> omega) _))))) hb_14
  have c_14_l2_0 : w_14.cell? ⟨b_l2, 0, none⟩ = some (.slice (some ⟨g0_5, 0, none⟩) n0 n0) := k_14_l2.cell 0
  have c_14_l2_1 : w_14.cell? ⟨b_l2, 1, none⟩ = some (.int .i64 a0_0) := k_14_l2.cell 1
  have c_14_l2_2 : w_14.cell? ⟨b_l2, 2, none⟩ = some (.int .i64 a0_1) := k_14_l2.cell 2
  have c_14_l2_3 : w_14.cell? ⟨b_l2, 3, none⟩ = some (.int .i64 a0_2) := k_14_l2.cell 3
  have c_14_l2_4 : w_14.cell? ⟨b_l2, 4, none⟩ = some (.int .i64 a0_3) := k_14_l2.cell 4
  have c_14_l2_5 : w_14.cell? ⟨b_l2, 5, none⟩ = some (.int .i64 a0_4) := k_14_l2.cell 5
  have c_14_l2_6 : w_14.cell? ⟨b_l2, 6, none⟩ = some (.int .i64 a0_5) := k_14_l2.cell 6
  have l_14_l2 := k_14_l2.lt
  have k_14_l3 : Blk w_14 (b_l3) 51 #[.slice (some ⟨g0_7, 0, none⟩) zs0.length c0_7, .int .i64 r0, .int .i64 r1, .int .i64 r2, .int .i64 r3, .int .i64 r4, .int .i64 r5] := Blk.step (by (with_reducible (repeat (first | assumption | exact Blk.new' (by simp) | apply Blk.drewN | apply Blk.drew | apply Blk.alloc | (refine Blk.far ?_ (by (try simp) <;> omega) _))))) hb_14
  have c_14_l3_0 : w_14.cell? ⟨b_l3, 0, none⟩ = some (.slice (some ⟨g0_7, 0, none⟩) zs0.length c0_7) := k_14_l3.cell 0
  have c_14_l3_1 : w_14.cell? ⟨b_l3, 1, none⟩ = some (.int .i64 r0) := k_14_l3.cell 1
  have c_14_l3_2 : w_14.cell? ⟨b_l3, 2, none⟩ = some (.int .i64 r1) := k_14_l3.cell 2
  have c_14_l3_3 : w_14.cell? ⟨b_l3, 3, none⟩ = some (.int .i64 r2) := k_14_l3.cell 3
  have c_14_l3_4 : w_14.cell? ⟨b_l3, 4, none⟩ = some (.int .i64 r3) := k_14_l3.cell 4
  have c_14_l3_5 : w_14.cell? ⟨b_l3, 5, none⟩ = some (.int .i64 r4) := k_14_l3.cell 5
  have c_14_l3_6 : w_14.cell? ⟨b_l3, 6, none⟩ = some (.int .i64 r5) := k_14_l3.cell 6
  have l_14_l3 := k_14_l3.lt
  have o_14_X3 : OCEvent w_14 g0_5 n0 n0 (marksEvent (1) n0) := OCEvent.step (by with_reducible (repeat (first | assumption | apply OCEvent.drewN | apply OCEvent.drew | apply OCEvent.alloc))) hb_14
  have o_14_X4 : OCEvent w_14 g0_7 zs0.length c0_7 (marksEvent (1) zs0.length) := OCEvent.step (by with_reducible (repeat (first | assumption | apply OCEvent.drewN | apply OCEvent.drew | apply OCEvent.alloc))) hb_14
  clear j_13 k_13_p0 c_13_p0_0 c_13_p0_1 c_13_p0_2 c_13_p0_3 c_13_p0_4 c_13_p0_5 c_13_p0_6 l_13_p0 k_13_l1 c_13_l1_0 c_13_l1_1 c_13_l1_2 c_13_l1_3 c_13_l1_4 c_13_l1_5 c_13_l1_6 l_13_l1 k_13_l2 c_13_l2_0 c_13_l2_1 c_13_l2_2 c_13_l2_3 c_13_l2_4 c_13_l2_5 c_13_l2_6 l_13_l2 k_13_l3 c_13_l3_0 c_13_l3_1 c_13_l3_2 c_13_l3_3 c_13_l3_4 c_13_l3_5 c_13_l3_6 l_13_l3 o_13_X3 o_13_X4 hb_13
  go_wp2_with fail
  refine (toBook_w A0 n0 c0 z0 a0_0 a0_1 a0_2 a0_3 a0_4 a0_5 _ (by first | omega | (unfold maxLen; omega)) (R0.out.in_ (IC.out.trans (by (repeat (first | exact In.refl _ | assumption | apply In.alloc | apply In.drewN | apply In.drew | (refine In.step ?_ (by assumption)))))))).mono ?_
  rintro _ w_15 ⟨g0_15, rfl, ho0_15, hg0_15, hb_15⟩
  have NE_X3_X5 : Hid (g0_5 ≠ g0_15) := Lib.hid (by have h1 := hg0_15; (try simp at h1); have h2 := OCEvent.lt o_14_X3; omega)
  have NE_X4_X5 : Hid (g0_7 ≠ g0_15) := Lib.hid (by have h1 := hg0_15; (try simp at h1); have h2 := OCEvent.lt o_14_X4; omega)
  have GX_X5 : Hid (w_4.heap.size ≤ g0_15) := Lib.hid (by have h1 := hg0_15; (try simp at h1); have h2 := In.size j_14; omega)
  have o_15_X5 : OCEvent w_15 g0_15 n0 n0 z0 := ho0_15
  clear ho0_15 hg0_15
  have j_15 : In w_4.heap.size w_4 w_15 := In.step (by (repeat (first | exact In.refl _ | assumption | apply In.alloc | apply In.drewN | apply In.drew | (refine In.step ?_ (by assumption))))) hb_15
  have k_15_p0 : Blk w_15 (b_p0) 45 #[.slice A0 n0 c0, .int .i64 a0_0, .int .i64 a0_1, .int .i64 a0_2, .int .i64 a0_3, .int .i64 a0_4, .int .i64 a0_5] := Blk.step (by (with_reducible (repeat (first | assumption | exact Blk.new' (by simp) | apply Blk.drewN | apply Blk.drew | apply Blk.alloc | (refine Blk.far ?_ (by (try simp) <;> omega) _))))) hb_15
  have c_15_p0_0 : w_15.cell? ⟨b_p0, 0, none⟩ = some (.slice A0 n0 c0) := k_15_p0.cell 0
  have c_15_p0_1 : w_15.cell? ⟨b_p0, 1, none⟩ = some (.int .i64 a0_0) := k_15_p0.cell 1
  have c_15_p0_2 : w_15.cell? ⟨b_p0, 2, none⟩ = some (.int .i64 a0_1) := k_15_p0.cell 2
  have c_15_p0_3 : w_15.cell? ⟨b_p0, 3, none⟩ = some (.int .i64 a0_2) := k_15_p0.cell 3
  have c_15_p0_4 : w_15.cell? ⟨b_p0, 4, none⟩ = some (.int .i64 a0_3) := k_15_p0.cell 4
  have c_15_p0_5 : w_15.cell? ⟨b_p0, 5, none⟩ = some (.int .i64 a0_4) := k_15_p0.cell 5
  have c_15_p0_6 : w_15.cell? ⟨b_p0, 6, none⟩ = some (.int .i64 a0_5) := k_15_p0.cell 6
  have l_15_p0 := k_15_p0.lt
  have k_15_l1 : Blk w_15 (b_l1) 51 #[.slice (some ⟨g0_3, 0, none⟩) zs0.length c0_3, .int .i64 r0, .int .i64 r1, .int .i64 r2, .int .i64 r3, .int .i64 r4, .int .i64 r5] := Blk.step (by (with_reducible (repeat (first | assumption | exact Blk.new' (by simp) | apply Blk.drewN | apply Blk.drew | apply Blk.alloc | (refine Blk.far ?_ (by (try simp) <;> omega) _))))) hb_15
  have c_15_l1_0 : w_15.cell? ⟨b_l1, 0, none⟩ = some (.slice (some ⟨g0_3, 0, none⟩) zs0.length c0_3) := k_15_l1.cell 0
  have c_15_l1_1 : w_15.cell? ⟨b_l1, 1, none⟩ = some (.int .i64 r0) := k_15_l1.cell 1
  have c_15_l1_2 : w_15.cell? ⟨b_l1, 2, none⟩ = some (.int .i64 r1) := k_15_l1.cell 2
  have c_15_l1_3 : w_15.cell? ⟨b_l1, 3, none⟩ = some (.int .i64 r2) := k_15_l1.cell 3
  have c_15_l1_4 : w_15.cell? ⟨b_l1, 4, none⟩ = some (.int .i64 r3) := k_15_l1.cell 4
  have c_15_l1_5 : w_15.cell? ⟨b_l1, 5, none⟩ = some (.int .i64 r4) := k_15_l1.cell 5
  have c_15_l1_6 : w_15.cell? ⟨b_l1, 6, none⟩ = some (.int .i64 r5) := k_15_l1.cell 6
  have l_15_l1 := k_15_l1.lt
  have k_15_l2 : Blk w_15 (b_l2) 51 #[.slice (some ⟨g0_5, 0, none⟩) n0 n0, .int .i64 a0_0, .int .i64 a0_1, .int .i64 a0_2, .int .i64 a0_3, .int .i64 a0_4, .int .i64 a0_5] := Blk.step (by (with_reducible (repeat (first | assumption | exact Blk.new' (by simp) | apply Blk.drewN | apply Blk.drew | apply Blk.alloc | (refine Blk.far ?_ (by (try simp) <;> omega) _))))) hb_15
  have c_15_l2_0 : w_15.cell? ⟨b_l2, 0, none⟩ = some (.slice (some ⟨g0_5, 0, none⟩) n0 n0) := k_15_l2.cell 0
  have c_15_l2_1 : w_15.cell? ⟨b_l2, 1, none⟩ = some (.int .i64 a0_0) := k_15_l2.cell 1
  have c_15_l2_2 : w_15.cell? ⟨b_l2, 2, none⟩ = some (.int .i64 a0_1) := k_15_l2.cell 2
  have c_15_l2_3 : w_15.cell? ⟨b_l2, 3, none⟩ = some (.int .i64 a0_2) := k_15_l2.cell 3
  have c_15_l2_4 : w_15.cell? ⟨b_l2, 4, none⟩ = some (.int .i64 a0_3) := k_15_l2.cell 4
  have c_15_l2_5 : w_15.cell? ⟨b_l2, 5, none⟩ = some (.int .i64 a0_4) := k_15_l2.cell 5
  have c_15_l2_6 : w_15.cell? ⟨b_l2, 6, none⟩ = some (.int .i64 a0_5) := k_15_l2.cell 6
  have l_15_l2 := k_15_l2.lt
  have k_15_l3 : Blk w_15 (b_l3) 51 #[.slice (some ⟨g0_7, 0, none⟩) zs0.length c0_7, .int .i64 r0, .int .i64 r1, .int .i64 r2, .int .i64 r3, .int .i64 r4, .int .i64 r5] := Blk.step (by (with_reducible (repeat (first | assumption | exact Blk.new' (by simp) | apply Blk.drewN | apply Blk.drew | apply Blk.alloc | (refine Blk.far ?_ (by (try simp) <;> omega) _))))) hb_15
  have c_15_l3_0 : w_15.cell? ⟨b_l3, 0, none⟩ = some (.slice (some ⟨g0_7, 0, none⟩) zs0.length c0_7) := k_15_l3.cell 0
  have c_15_l3_1 : w_15.cell? ⟨b_l3, 1, none⟩ = some (.int .i64 r0) := k_15_l3.cell 1
  have c_15_l3_2 : w_15.cell? ⟨b_l3, 2, none⟩ = some (.int .i64 r1) := k_15_l3.cell 2
  have c_15_l3_3 : w_15.cell? ⟨b_l3, 3, none⟩ = some (.int .i64 r2) := k_15_l3.cell 3
  have c_15_l3_4 : w_15.cell? ⟨b_l3, 4, none⟩ = some (.int .i64 r3) := k_15_l3.cell 4
  have c_15_l3_5 : w_15.cell? ⟨b_l3, 5, none⟩ = some (.int .i64 r4) := k_15_l3.cell 5
  have c_15_l3_6 : w_15.cell? ⟨b_l3, 6, none⟩ = some (.int .i64 r5) := k_15_l3.cell 6
  have l_15_l3 := k_15_l3.lt
  have o_15_X3 : OCEvent w_15 g0_5 n0 n0 (marksEvent (1) n0) := OCEvent.step (by with_reducible (repeat (first | assumption | apply OCEvent.drewN | apply OCEvent.drew | apply OCEvent.alloc))) hb_15
  have o_15_X4 : OCEvent w_15 g0_7 zs0.length c0_7 (marksEvent (1) zs0.length) := OCEvent.step (by with_reducible (repeat (first | assumption | apply OCEvent.drewN | apply OCEvent.drew | apply OCEvent.alloc))) hb_15
  clear j_14 k_14_p0 c_14_p0_0 c_14_p0_1 c_14_p0_2 c_14_p0_3 c_14_p0_4 c_14_p0_5 c_14_p0_6 l_14_p0 k_14_l1 c_14_l1_0 c_14_l1_1 c_14_l1_2 c_14_l1_3 c_14_l1_4 c_14_l1_5 c_14_l1_6 l_14_l1 k_14_l2 c_14_l2_0 c_14_l2_1 c_14_l2_2 c_14_l2_3 c_14_l2_4 c_14_l2_5 c_14_l2_6 l_14_l2 k_14_l3 c_14_l3_0 c_14_l3_1 c_14_l3_2 c_14_l3_3 c_14_l3_4 c_14_l3_5 c_14_l3_6 l_14_l3 o_14_X3 o_14_X4 hb_14
  go_wp2_with fail
  refine (HiC.out g0_15 _ (OCEvent.reads (by with_reducible (repeat (first | assumption | apply OCEvent.drewN | apply OCEvent.drew | apply OCEvent.alloc))))).mono ?_
  rintro _ w_16 ⟨g0_16, c0_16, rfl, ho0_16, hg0_16, hb_16⟩
  have NE_X3_X6 : Hid (g0_5 ≠ g0_16) := Lib.hid (by have h1 := hg0_16; (try simp at h1); have h2 := OCEvent.lt o_15_X3; omega)
  have NE_X4_X6 : Hid (g0_7 ≠ g0_16) := Lib.hid (by have h1 := hg0_16; (try simp at h1); have h2 := OCEvent.lt o_15_X4; omega)
  have GX_X6 : Hid (w_4.heap.size ≤ g0_16) := Lib.hid (by have h1 := hg0_16; (try simp at h1); have h2 := In.size j_15; omega)
  have o_16_X6 : OCEvent w_16 g0_16 zs0.length c0_16 zs0 := ho0_16
  clear ho0_16 hg0_16
  have j_16 : In w_4.heap.size w_4 w_16 := In.step (by (repeat (first | exact In.refl _ | assumption | apply In.alloc | apply In.drewN | apply In.drew | (refine In.step ?_ (by assumption))))) hb_16
  have k_16_p0 : Blk w_16 (b_p0) 45 #[.slice A0 n0 c0, .int .i64 a0_0, .int .i64 a0_1, .int .i64 a0_2, .int .i64 a0_3, .int .i64 a0_4, .int .i64 a0_5] := Blk.step (by (with_reducible (repeat (first | assumption | exact Blk.new' (by simp) | apply Blk.drewN | apply Blk.drew | apply Blk.alloc | (refine Blk.far ?_ (by (try simp) <;> omega) _))))) hb_16
  have c_16_p0_0 : w_16.cell? ⟨b_p0, 0, none⟩ = some (.slice A0 n0 c0) := k_16_p0.cell 0
  have c_16_p0_1 : w_16.cell? ⟨b_p0, 1, none⟩ = some (.int .i64 a0_0) := k_16_p0.cell 1
  have c_16_p0_2 : w_16.cell? ⟨b_p0, 2, none⟩ = some (.int .i64 a0_1) := k_16_p0.cell 2
  have c_16_p0_3 : w_16.cell? ⟨b_p0, 3, none⟩ = some (.int .i64 a0_2) := k_16_p0.cell 3
  have c_16_p0_4 : w_16.cell? ⟨b_p0, 4, none⟩ = some (.int .i64 a0_3) := k_16_p0.cell 4
  have c_16_p0_5 : w_16.cell? ⟨b_p0, 5, none⟩ = some (.int .i64 a0_4) := k_16_p0.cell 5
  have c_16_p0_6 : w_16.cell? ⟨b_p0, 6, none⟩ = some (.int .i64 a0_5) := k_16_p0.cell 6
  have l_16_p0 := k_16_p0.lt
  have k_16_l1 : Blk w_16 (b_l1) 51 #[.slice (some ⟨g0_3, 0, none⟩) zs0.length c0_3, .int .i64 r0, .int .i64 r1, .int .i64 r2, .int .i64 r3, .int .i64 r4, .int .i64 r5] := Blk.step (by (with_reducible (repeat (first | assumption | exact Blk.new' (by simp) | apply Blk.drewN | apply Blk.drew | apply Blk.alloc | (refine Blk.far ?_ (by (try simp) <;> omega) _))))) hb_16
  have c_16_l1_0 : w_16.cell? ⟨b_l1, 0, none⟩ = some (.slice (some ⟨g0_3, 0, none⟩) zs0.length c0_3) := k_16_l1.cell 0
  have c_16_l1_1 : w_16.cell? ⟨b_l1, 1, none⟩ = some (.int .i64 r0) := k_16_l1.cell 1
  have c_16_l1_2 : w_16.cell? ⟨b_l1, 2, none⟩ = some (.int .i64 r1) := k_16_l1.cell 2
  have c_16_l1_3 : w_16.cell? ⟨b_l1, 3, none⟩ = some (.int .i64 r2) := k_16_l1.cell 3
  have c_16_l1_4 : w_16.cell? ⟨b_l1, 4, none⟩ = some (.int .i64 r3) := k_16_l1.cell 4
  have c_16_l1_5 : w_16.cell? ⟨b_l1, 5, none⟩ = some (.int .i64 r4) := k_16_l1.cell 5
  have c_16_l1_6 : w_16.cell? ⟨b_l1, 6, none⟩ = some (.int .i64 r5) := k_16_l1.cell 6
  have l_16_l1 := k_16_l1.lt
  have k_16_l2 : Blk w_16 (b_l2) 51 #[.slice (some ⟨g0_5, 0, none⟩) n0 n0, .int .i64 a0_0, .int .i64 a0_1, .int .i64 a0_2, .int .i64 a0_3, .int .i64 a0_4, .int .i64 a0_5] := Blk.step (by (with_reducible (repeat (first | assumption | exact Blk.new' (by simp) | apply Blk.drewN | apply Blk.drew | apply Blk.alloc | (refine Blk.far ?_ (by (try simp) <;> omega) _))))) hb_16
  have c_16_l2_0 : w_16.cell? ⟨b_l2, 0, none⟩ = some (.slice (some ⟨g0_5, 0, none⟩) n0 n0) := k_16_l2.cell 0
  have c_16_l2_1 : w_16.cell? ⟨b_l2, 1, none⟩ = some (.int .i64 a0_0) := k_16_l2.cell 1
  have c_16_l2_2 : w_16.cell? ⟨b_l2, 2, none⟩ = some (.int .i64 a0_1) := k_16_l2.cell 2
  have c_16_l2_3 : w_16.cell? ⟨b_l2, 3, none⟩ = some (.int .i64 a0_2) := k_16_l2.cell 3
  have c_16_l2_4 : w_16.cell? ⟨b_l2, 4, none⟩ = some (.int .i64 a0_3) := k_16_l2.cell 4
  have c_16_l2_5 : w_16.cell? ⟨b_l2, 5, none⟩ = some (.int .i64 a0_4) := k_16_l2.cell 5
  have c_16_l2_6 : w_16.cell? ⟨b_l2, 6, none⟩ = some (.int .i64 a0_5) := k_16_l2.cell 6
  have l_16_l2 := k_16_l2.lt
  have k_16_l3 : Blk w_16 (b_l3) 51 #[.slice (some ⟨g0_7, 0, none⟩) zs0.length c0_7, .int .i64 r0, .int .i64 r1, .int .i64 r2, .int .i64 r3, .int .i64 r4, .int .i64 r5] := Blk.step (by (with_reducible (repeat (first | assumption | exact Blk.new' (by simp) | apply Blk.drewN | apply Blk.drew | apply Blk.alloc | (refine Blk.far ?_ (by (try simp) <;> omega) _))))) hb_16
  have c_16_l3_0 : w_16.cell? ⟨b_l3, 0, none⟩ = some (.slice (some ⟨g0_7, 0, none⟩) zs0.length c0_7) := k_16_l3.cell 0
  have c_16_l3_1 : w_16.cell? ⟨b_l3, 1, none⟩ = some (.int .i64 r0) := k_16_l3.cell 1
  have c_16_l3_2 : w_16.cell? ⟨b_l3, 2, none⟩ = some (.int .i64 r1) := k_16_l3.cell 2
  have c_16_l3_3 : w_16.cell? ⟨b_l3, 3, none⟩ = some (.int .i64 r2) := k_16_l3.cell 3
  have c_16_l3_4 : w_16.cell? ⟨b_l3, 4, none⟩ = some (.int .i64 r3) := k_16_l3.cell 4
  have c_16_l3_5 : w_16.cell? ⟨b_l3, 5, none⟩ = some (.int .i64 r4) := k_16_l3.cell 5
  have c_16_l3_6 : w_16.cell? ⟨b_l3, 6, none⟩ = some (.int .i64 r5) := k_16_l3.cell 6
  have l_16_l3 := k_16_l3.lt
  have o_16_X3 : OCEvent w_16 g0_5 n0 n0 (marksEvent (1) n0) := OCEvent.step (by with_reducible (repeat (first | assumption | apply OCEvent.drewN | apply OCEvent.drew | apply OCEvent.alloc))) hb_16
  have o_16_X4 : OCEvent w_16 g0_7 zs0.length c0_7 (marksEvent (1) zs0.length) := OCEvent.step (by with_reducible (repeat (first | assumption | apply OCEvent.drewN | apply OCEvent.drew | apply OCEvent.alloc))) hb_16
  clear j_15 k_15_p0 c_15_p0_0 c_15_p0_1 c_15_p0_2 c_15_p0_3 c_15_p0_4 c_15_p0_5 c_15_p0_6 l_15_p0 k_15_l1 c_15_l1_0 c_15_l1_1 c_15_l1_2 c_15_l1_3 c_15_l1_4 c_15_l1_5 c_15_l1_6 l_15_l1 k_15_l2 c_15_l2_0 c_15_l2_1 c_15_l2_2 c_15_l2_3 c_15_l2_4 c_15_l2_5 c_15_l2_6 l_15_l2 k_15_l3 c_15_l3_0 c_15_l3_1 c_15_l3_2 c_15_l3_3 c_15_l3_4 c_15_l3_5 c_15_l3_6 l_15_l3 o_15_X3 o_15_X4 o_15_X5 hb_15
  go_wp2_with fail
  obtain ⟨b_l4, hbx_l4⟩ : ∃ b, b = w_16.heap.size := ⟨_, rfl⟩
  rw [← hbx_l4]
  have hb_17 : Below w_16.heap.size w_16 (w_16.alloc (.cells #[.slice (some ⟨g0_16, 0, none⟩) zs0.length c0_16, .int .i64 r0, .int .i64 r1, .int .i64 r2, .int .i64 r3, .int .i64 r4, .int .i64 r5] 51)) := (Below.refl _ _).alloc (Nat.le_refl _) _
  have kk_17 : Blk (w_16.alloc (.cells #[.slice (some ⟨g0_16, 0, none⟩) zs0.length c0_16, .int .i64 r0, .int .i64 r1, .int .i64 r2, .int .i64 r3, .int .i64 r4, .int .i64 r5] 51)) b_l4 51 #[.slice (some ⟨g0_16, 0, none⟩) zs0.length c0_16, .int .i64 r0, .int .i64 r1, .int .i64 r2, .int .i64 r3, .int .i64 r4, .int .i64 r5] := Blk.new' hbx_l4
  clear hbx_l4
  generalize (w_16.alloc (.cells #[.slice (some ⟨g0_16, 0, none⟩) zs0.length c0_16, .int .i64 r0, .int .i64 r1, .int .i64 r2, .int .i64 r3, .int .i64 r4, .int .i64 r5] 51)) = w_17 at *
  have j_17 : In w_4.heap.size w_4 w_17 := In.step (by (repeat (first | exact In.refl _ | assumption | apply In.alloc | apply In.drewN | apply In.drew | (refine In.step ?_ (by assumption))))) hb_17
  have k_17_p0 : Blk w_17 (b_p0) 45 #[.slice A0 n0 c0, .int .i64 a0_0, .int .i64 a0_1, .int .i64 a0_2, .int .i64 a0_3, .int .i64 a0_4, .int .i64 a0_5] := Blk.step (by (with_reducible (repeat (first | assumption | exact Blk.new' (by simp) | apply Blk.drewN | apply Blk.drew | apply Blk.alloc | (refine Blk.far ?_ (by (try simp) <;> omega) _))))) hb_17
  have c_17_p0_0 : w_17.cell? ⟨b_p0, 0, none⟩ = some (.slice A0 n0 c0) := k_17_p0.cell 0
  have c_17_p0_1 : w_17.cell? ⟨b_p0, 1, none⟩ = some (.int .i64 a0_0) := k_17_p0.cell 1
  have c_17_p0_2 : w_17.cell? ⟨b_p0, 2, none⟩ = some (.int .i64 a0_1) := k_17_p0.cell 2
  have c_17_p0_3 : w_17.cell? ⟨b_p0, 3, none⟩ = some (.int .i64 a0_2) := k_17_p0.cell 3
  have c_17_p0_4 : w_17.cell? ⟨b_p0, 4, none⟩ = some (.int .i64 a0_3) := k_17_p0.cell 4
  have c_17_p0_5 : w_17.cell? ⟨b_p0, 5, none⟩ = some (.int .i64 a0_4) := k_17_p0.cell 5
  have c_17_p0_6 : w_17.cell? ⟨b_p0, 6, none⟩ = some (.int .i64 a0_5) := k_17_p0.cell 6
  have l_17_p0 := k_17_p0.lt
  have k_17_l1 : Blk w_17 (b_l1) 51 #[.slice (some ⟨g0_3, 0, none⟩) zs0.length c0_3, .int .i64 r0, .int .i64 r1, .int .i64 r2, .int .i64 r3, .int .i64 r4, .int .i64 r5] := Blk.step (by (with_reducible (repeat (first | assumption | exact Blk.new' (by simp) | apply Blk.drewN | apply Blk.drew | apply Blk.alloc | (refine Blk.far ?_ (by (try simp) <;> omega) _))))) hb_17
  have c_17_l1_0 : w_17.cell? ⟨b_l1, 0, none⟩ = some (.slice (some ⟨g0_3, 0, none⟩) zs0.length c0_3) := k_17_l1.cell 0
  have c_17_l1_1 : w_17.cell? ⟨b_l1, 1, none⟩ = some (.int .i64 r0) := k_17_l1.cell 1
  have c_17_l1_2 : w_17.cell? ⟨b_l1, 2, none⟩ = some (.int .i64 r1) := k_17_l1.cell 2
  have c_17_l1_3 : w_17.cell? ⟨b_l1, 3, none⟩ = some (.int .i64 r2) := k_17_l1.cell 3
  have c_17_l1_4 : w_17.cell? ⟨b_l1, 4, none⟩ = some (.int .i64 r3) := k_17_l1.cell 4
  have c_17_l1_5 : w_17.cell? ⟨b_l1, 5, none⟩ = some (.int .i64 r4) := k_17_l1.cell 5
  have c_17_l1_6 : w_17.cell? ⟨b_l1, 6, none⟩ = some (.int .i64 r5) := k_17_l1.cell 6
  have l_17_l1 := k_17_l1.lt
  have k_17_l2 : Blk w_17 (b_l2) 51 #[.slice (some ⟨g0_5, 0, none⟩) n0 n0, .int .i64 a0_0, .int .i64 a0_1, .int .i64 a0_2, .int .i64 a0_3, .int .i64 a0_4, .int .i64 a0_5] := Blk.step (by (with_reducible (repeat (first | assumption | exact Blk.new' (by simp) | apply Blk.drewN | apply Blk.drew | apply Blk.alloc | (refine Blk.far ?_ (by (try simp) <;> omega) _))))) hb_17
  have c_17_l2_0 : w_17.cell? ⟨b_l2, 0, none⟩ = some (.slice (some ⟨g0_5, 0, none⟩) n0 n0) := k_17_l2.cell 0
  have c_17_l2_1 : w_17.cell? ⟨b_l2, 1, none⟩ = some (.int .i64 a0_0) := k_17_l2.cell 1
  have c_17_l2_2 : w_17.cell? ⟨b_l2, 2, none⟩ = some (.int .i64 a0_1) := k_17_l2.cell 2
  have c_17_l2_3 : w_17.cell? ⟨b_l2, 3, none⟩ = some (.int .i64 a0_2) := k_17_l2.cell 3
  have c_17_l2_4 : w_17.cell? ⟨b_l2, 4, none⟩ = some (.int .i64 a0_3) := k_17_l2.cell 4
  have c_17_l2_5 : w_17.cell? ⟨b_l2, 5, none⟩ = some (.int .i64 a0_4) := k_17_l2.cell 5
  have c_17_l2_6 : w_17.cell? ⟨b_l2, 6, none⟩ = some (.int .i64 a0_5) := k_17_l2.cell 6
  have l_17_l2 := k_17_l2.lt
  have k_17_l3 : Blk w_17 (b_l3) 51 #[.slice (some ⟨g0_7, 0, none⟩) zs0.length c0_7, .int .i64 r0, .int .i64 r1, .int .i64 r2, .int .i64 r3, .int .i64 r4, .int .i64 r5] := Blk.step (by (with_reducible (repeat (first | assumption | exact Blk.new' (by simp) | apply Blk.drewN | apply Blk.drew | apply Blk.alloc | (refine Blk.far ?_ (by (try simp) <;> omega) _))))) hb_17
  have c_17_l3_0 : w_17.cell? ⟨b_l3, 0, none⟩ = some (.slice (some ⟨g0_7, 0, none⟩) zs0.length c0_7) := k_17_l3.cell 0
  have c_17_l3_1 : w_17.cell? ⟨b_l3, 1, none⟩ = some (.int .i64 r0) := k_17_l3.cell 1
  have c_17_l3_2 : w_17.cell? ⟨b_l3, 2, none⟩ = some (.int .i64 r1) := k_17_l3.cell 2
  have c_17_l3_3 : w_17.cell? ⟨b_l3, 3, none⟩ = some (.int .i64 r2) := k_17_l3.cell 3
  have c_17_l3_4 : w_17.cell? ⟨b_l3, 4, none⟩ = some (.int .i64 r3) := k_17_l3.cell 4
  have c_17_l3_5 : w_17.cell? ⟨b_l3, 5, none⟩ = some (.int .i64 r4) := k_17_l3.cell 5
  have c_17_l3_6 : w_17.cell? ⟨b_l3, 6, none⟩ = some (.int .i64 r5) := k_17_l3.cell 6
  have l_17_l3 := k_17_l3.lt
  have k_17_l4 : Blk w_17 (b_l4) 51 #[.slice (some ⟨g0_16, 0, none⟩) zs0.length c0_16, .int .i64 r0, .int .i64 r1, .int .i64 r2, .int .i64 r3, .int .i64 r4, .int .i64 r5] := kk_17
  have c_17_l4_0 : w_17.cell? ⟨b_l4, 0, none⟩ = some (.slice (some ⟨g0_16, 0, none⟩) zs0.length c0_16) := k_17_l4.cell 0
  have c_17_l4_1 : w_17.cell? ⟨b_l4, 1, none⟩ = some (.int .i64 r0) := k_17_l4.cell 1
  have c_17_l4_2 : w_17.cell? ⟨b_l4, 2, none⟩ = some (.int .i64 r1) := k_17_l4.cell 2
  have c_17_l4_3 : w_17.cell? ⟨b_l4, 3, none⟩ = some (.int .i64 r2) := k_17_l4.cell 3
  have c_17_l4_4 : w_17.cell? ⟨b_l4, 4, none⟩ = some (.int .i64 r3) := k_17_l4.cell 4
  have c_17_l4_5 : w_17.cell? ⟨b_l4, 5, none⟩ = some (.int .i64 r4) := k_17_l4.cell 5
  have c_17_l4_6 : w_17.cell? ⟨b_l4, 6, none⟩ = some (.int .i64 r5) := k_17_l4.cell 6
  have l_17_l4 := k_17_l4.lt
  have o_17_X3 : OCEvent w_17 g0_5 n0 n0 (marksEvent (1) n0) := OCEvent.step (by with_reducible (repeat (first | assumption | apply OCEvent.drewN | apply OCEvent.drew | apply OCEvent.alloc))) hb_17
  have o_17_X4 : OCEvent w_17 g0_7 zs0.length c0_7 (marksEvent (1) zs0.length) := OCEvent.step (by with_reducible (repeat (first | assumption | apply OCEvent.drewN | apply OCEvent.drew | apply OCEvent.alloc))) hb_17
  have o_17_X6 : OCEvent w_17 g0_16 zs0.length c0_16 zs0 := OCEvent.step (by with_reducible (repeat (first | assumption | apply OCEvent.drewN | apply OCEvent.drew | apply OCEvent.alloc))) hb_17
  clear j_16 k_16_p0 c_16_p0_0 c_16_p0_1 c_16_p0_2 c_16_p0_3 c_16_p0_4 c_16_p0_5 c_16_p0_6 l_16_p0 k_16_l1 c_16_l1_0 c_16_l1_1 c_16_l1_2 c_16_l1_3 c_16_l1_4 c_16_l1_5 c_16_l1_6 l_16_l1 k_16_l2 c_16_l2_0 c_16_l2_1 c_16_l2_2 c_16_l2_3 c_16_l2_4 c_16_l2_5 c_16_l2_6 l_16_l2 k_16_l3 c_16_l3_0 c_16_l3_1 c_16_l3_2 c_16_l3_3 c_16_l3_4 c_16_l3_5 c_16_l3_6 l_16_l3 o_16_X3 o_16_X4 o_16_X6 hb_16
  clear kk_17
  go_wp2_with fail
  refine (eqBook_w (some ⟨g0_16, 0, none⟩) (some ⟨g0_3, 0, none⟩) zs0.length c0_16 c0_3 zs0 r0 r1 r2 r3 r4 r5 _ (by first | omega | (unfold maxLen; omega)) (OCEvent.reads (by with_reducible (repeat (first | assumption | apply OCEvent.drewN | apply OCEvent.drew | apply OCEvent.alloc)))) (HW0.out.in_ (by (repeat (first | exact In.refl _ | assumption | apply In.alloc | apply In.drewN | apply In.drew | (refine In.step ?_ (by assumption))))))).mono ?_
  rintro _ w_18 ⟨rfl, hb_18⟩
  have j_18 : In w_4.heap.size w_4 w_18 := In.step (by (repeat (first | exact In.refl _ | assumption | apply In.alloc | apply In.drewN | apply In.drew | (refine In.step ?_ (by assumption))))) hb_18
  have k_18_p0 : Blk w_18 (b_p0) 45 #[.slice A0 n0 c0, .int .i64 a0_0, .int .i64 a0_1, .int .i64 a0_2, .int .i64 a0_3, .int .i64 a0_4, .int .i64 a0_5] := Blk.step (by (with_reducible (repeat (first | assumption | exact Blk.new' (by simp) | apply Blk.drewN | apply Blk.drew | apply Blk.alloc | (refine Blk.far ?_ (by (try simp) <;> omega) _))))) hb_18
  have c_18_p0_0 : w_18.cell? ⟨b_p0, 0, none⟩ = some (.slice A0 n0 c0) := k_18_p0.cell 0
  have c_18_p0_1 : w_18.cell? ⟨b_p0, 1, none⟩ = some (.int .i64 a0_0) := k_18_p0.cell 1
  have c_18_p0_2 : w_18.cell? ⟨b_p0, 2, none⟩ = some (.int .i64 a0_1) := k_18_p0.cell 2
  have c_18_p0_3 : w_18.cell? ⟨b_p0, 3, none⟩ = some (.int .i64 a0_2) := k_18_p0.cell 3
  have c_18_p0_4 : w_18.cell? ⟨b_p0, 4, none⟩ = some (.int .i64 a0_3) := k_18_p0.cell 4
  have c_18_p0_5 : w_18.cell? ⟨b_p0, 5, none⟩ = some (.int .i64 a0_4) := k_18_p0.cell 5
  have c_18_p0_6 : w_18.cell? ⟨b_p0, 6, none⟩ = some (.int .i64 a0_5) := k_18_p0.cell 6
  have l_18_p0 := k_18_p0.lt
  have k_18_l1 : Blk w_18 (b_l1) 51 #[.slice (some ⟨g0_3, 0, none⟩) zs0.length c0_3, .int .i64 r0, .int .i64 r1, .int .i64 r2, .int .i64 r3, .int .i64 r4, .int .i64 r5] := Blk.step (by (with_reducible (repeat (first | assumption | exact Blk.new' (by simp) | apply Blk.drewN | apply Blk.drew | apply Blk.alloc | (refine Blk.far ?_ (by (try simp) <;> omega) _))))) hb_18
  have c_18_l1_0 : w_18.cell? ⟨b_l1, 0, none⟩ = some (.slice (some ⟨g0_3, 0, none⟩) zs0.length c0_3) := k_18_l1.cell 0
  have c_18_l1_1 : w_18.cell? ⟨b_l1, 1, none⟩ = some (.int .i64 r0) := k_18_l1.cell 1
  have c_18_l1_2 : w_18.cell? ⟨b_l1, 2, none⟩ = some (.int .i64 r1) := k_18_l1.cell 2
  have c_18_l1_3 : w_18.cell? ⟨b_l1, 3, none⟩ = some (.int .i64 r2) := k_18_l1.cell 3
  have c_18_l1_4 : w_18.cell? ⟨b_l1, 4, none⟩ = some (.int .i64 r3) := k_18_l1.cell 4
  have c_18_l1_5 : w_18.cell? ⟨b_l1, 5, none⟩ = some (.int .i64 r4) := k_18_l1.cell 5
  have c_18_l1_6 : w_18.cell? ⟨b_l1, 6, none⟩ = some (.int .i64 r5) := k_18_l1.cell 6
  have l_18_l1 := k_18_l1.lt
  have k_18_l2 : Blk w_18 (b_l2) 51 #[.slice (some ⟨g0_5, 0, none⟩) n0 n0, .int .i64 a0_0, .int .i64 a0_1, .int .i64 a0_2, .int .i64 a0_3, .int .i64 a0_4, .int .i64 a0_5] := Blk.step (by (with_reducible (repeat (first | assumption | exact Blk.new' (by simp) | apply Blk.drewN | apply Blk.drew | apply Blk.alloc | (refine Blk.far ?_ (by (try simp) <;> omega) _))))) hb_18
  have c_18_l2_0 : w_18.cell? ⟨b_l2, 0, none⟩ = some (.slice (some ⟨g0_5, 0, none⟩) n0 n0) := k_18_l2.cell 0
  have c_18_l2_1 : w_18.cell? ⟨b_l2, 1, none⟩ = some (.int .i64 a0_0) := k_18_l2.cell 1
  have c_18_l2_2 : w_18.cell? ⟨b_l2, 2, none⟩ = some (.int .i64 a0_1) := k_18_l2.cell 2
  have c_18_l2_3 : w_18.cell? ⟨b_l2, 3, none⟩ = some (.int .i64 a0_2) := k_18_l2.cell 3
  have c_18_l2_4 : w_18.cell? ⟨b_l2, 4, none⟩ = some (.int .i64 a0_3) := k_18_l2.cell 4
  have c_18_l2_5 : w_18.cell? ⟨b_l2, 5, none⟩ = some (.int .i64 a0_4) := k_18_l2.cell 5
  have c_18_l2_6 : w_18.cell? ⟨b_l2, 6, none⟩ = some (.int .i64 a0_5) := k_18_l2.cell 6
  have l_18_l2 := k_18_l2.lt
  have k_18_l3 : Blk w_18 (b_l3) 51 #[.slice (some ⟨g0_7, 0, none⟩) zs0.length c0_7, .int .i64 r0, .int .i64 r1, .int .i64 r2, .int .i64 r3, .int .i64 r4, .int .i64 r5] := Blk.step (by (with_reducible (repeat (first | assumption | exact Blk.new' (by simp) | apply Blk.drewN | apply Blk.drew | apply Blk.alloc | (refine Blk.far ?_ (by (try simp) <;> omega) _))))) hb_18
  have c_18_l3_0 : w_18.cell? ⟨b_l3, 0, none⟩ = some (.slice (some ⟨g0_7, 0, none⟩) zs0.length c0_7) := k_18_l3.cell 0
  have c_18_l3_1 : w_18.cell? ⟨b_l3, 1, none⟩ = some (.int .i64 r0) := k_18_l3.cell 1
  have c_18_l3_2 : w_18.cell? ⟨b_l3, 2, none⟩ = some (.int .i64 r1) := k_18_l3.cell 2
  have c_18_l3_3 : w_18.cell? ⟨b_l3, 3, none⟩ = some (.int .i64 r2) := k_18_l3.cell 3
  have c_18_l3_4 : w_18.cell? ⟨b_l3, 4, none⟩ = some (.int .i64 r3) := k_18_l3.cell 4
  have c_18_l3_5 : w_18.cell? ⟨b_l3, 5, none⟩ = some (.int .i64 r4) := k_18_l3.cell 5
  have c_18_l3_6 : w_18.cell? ⟨b_l3, 6, none⟩ = some (.int .i64 r5) := k_18_l3.cell 6
  have l_18_l3 := k_18_l3.lt
  have k_18_l4 : Blk w_18 (b_l4) 51 #[.slice (some ⟨g0_16, 0, none⟩) zs0.length c0_16, .int .i64 r0, .int .i64 r1, .int .i64 r2, .int .i64 r3, .int .i64 r4, .int .i64 r5] := Blk.step (by (with_reducible (repeat (first | assumption | exact Blk.new' (by simp) | apply Blk.drewN | apply Blk.drew | apply Blk.alloc | (refine Blk.far ?_ (by (try simp) <;> omega) _))))) hb_18
  have c_18_l4_0 : w_18.cell? ⟨b_l4, 0, none⟩ = some (.slice (some ⟨g0_16, 0, none⟩) zs0.length c0_16) := k_18_l4.cell 0
  have c_18_l4_1 : w_18.cell? ⟨b_l4, 1, none⟩ = some (.int .i64 r0) := k_18_l4.cell 1
  have c_18_l4_2 : w_18.cell? ⟨b_l4, 2, none⟩ = some (.int .i64 r1) := k_18_l4.cell 2
  have c_18_l4_3 : w_18.cell? ⟨b_l4, 3, none⟩ = some (.int .i64 r2) := k_18_l4.cell 3
  have c_18_l4_4 : w_18.cell? ⟨b_l4, 4, none⟩ = some (.int .i64 r3) := k_18_l4.cell 4
  have c_18_l4_5 : w_18.cell? ⟨b_l4, 5, none⟩ = some (.int .i64 r4) := k_18_l4.cell 5
  have c_18_l4_6 : w_18.cell? ⟨b_l4, 6, none⟩ = some (.int .i64 r5) := k_18_l4.cell 6
  have l_18_l4 := k_18_l4.lt
  have o_18_X3 : OCEvent w_18 g0_5 n0 n0 (marksEvent (1) n0) := OCEvent.step (by with_reducible (repeat (first | assumption | apply OCEvent.drewN | apply OCEvent.drew | apply OCEvent.alloc))) hb_18
  have o_18_X4 : OCEvent w_18 g0_7 zs0.length c0_7 (marksEvent (1) zs0.length) := OCEvent.step (by with_reducible (repeat (first | assumption | apply OCEvent.drewN | apply OCEvent.drew | apply OCEvent.alloc))) hb_18
  have o_18_X6 : OCEvent w_18 g0_16 zs0.length c0_16 zs0 := OCEvent.step (by with_reducible (repeat (first | assumption | apply OCEvent.drewN | apply OCEvent.drew | apply OCEvent.alloc))) hb_18
  clear j_17 k_17_p0 c_17_p0_0 c_17_p0_1 c_17_p0_2 c_17_p0_3 c_17_p0_4 c_17_p0_5 c_17_p0_6 l_17_p0 k_17_l1 c_17_l1_0 c_17_l1_1 c_17_l1_2 c_17_l1_3 c_17_l1_4 c_17_l1_5 c_17_l1_6 l_17_l1 k_17_l2 c_17_l2_0 c_17_l2_1 c_17_l2_2 c_17_l2_3 c_17_l2_4 c_17_l2_5 c_17_l2_6 l_17_l2 k_17_l3 c_17_l3_0 c_17_l3_1 c_17_l3_2 c_17_l3_3 c_17_l3_4 c_17_l3_5 c_17_l3_6 l_17_l3 k_17_l4 c_17_l4_0 c_17_l4_1 c_17_l4_2 c_17_l4_3 c_17_l4_4 c_17_l4_5 c_17_l4_6 l_17_l4 o_17_X3 o_17_X4 o_17_X6 hb_17
  go_wp2_with fail
  refine (heldBook_w (some ⟨g0_7, 0, none⟩) zs0.length c0_7 r0 r1 r2 r3 r4 r5 (1) _ (by omega) (by omega) (OCEvent.reads (by with_reducible (repeat (first | assumption | apply OCEvent.drewN | apply OCEvent.drew | apply OCEvent.alloc))))).mono ?_
  rintro _ w_19 ⟨rfl, hb_19⟩
  have j_19 : In w_4.heap.size w_4 w_19 := In.step (by (repeat (first | exact In.refl _ | assumption | apply In.alloc | apply In.drewN | apply In.drew | (refine In.step ?_ (by assumption))))) hb_19
  have k_19_p0 : Blk w_19 (b_p0) 45 #[.slice A0 n0 c0, .int .i64 a0_0, .int .i64 a0_1, .int .i64 a0_2, .int .i64 a0_3, .int .i64 a0_4, .int .i64 a0_5] := Blk.step (by (with_reducible (repeat (first | assumption | exact Blk.new' (by simp) | apply Blk.drewN | apply Blk.drew | apply Blk.alloc | (refine Blk.far ?_ (by (try simp) <;> omega) _))))) hb_19
  have c_19_p0_0 : w_19.cell? ⟨b_p0, 0, none⟩ = some (.slice A0 n0 c0) := k_19_p0.cell 0
  have c_19_p0_1 : w_19.cell? ⟨b_p0, 1, none⟩ = some (.int .i64 a0_0) := k_19_p0.cell 1
  have c_19_p0_2 : w_19.cell? ⟨b_p0, 2, none⟩ = some (.int .i64 a0_1) := k_19_p0.cell 2
  have c_19_p0_3 : w_19.cell? ⟨b_p0, 3, none⟩ = some (.int .i64 a0_2) := k_19_p0.cell 3
  have c_19_p0_4 : w_19.cell? ⟨b_p0, 4, none⟩ = some (.int .i64 a0_3) := k_19_p0.cell 4
  have c_19_p0_5 : w_19.cell? ⟨b_p0, 5, none⟩ = some (.int .i64 a0_4) := k_19_p0.cell 5
  have c_19_p0_6 : w_19.cell? ⟨b_p0, 6, none⟩ = some (.int .i64 a0_5) := k_19_p0.cell 6
  have l_19_p0 := k_19_p0.lt
  have k_19_l1 : Blk w_19 (b_l1) 51 #[.slice (some ⟨g0_3, 0, none⟩) zs0.length c0_3, .int .i64 r0, .int .i64 r1, .int .i64 r2, .int .i64 r3, .int .i64 r4, .int .i64 r5] := Blk.step (by (with_reducible (repeat (first | assumption | exact Blk.new' (by simp) | apply Blk.drewN | apply Blk.drew | apply Blk.alloc | (refine Blk.far ?_ (by (try simp) <;> omega) _))))) hb_19
  have c_19_l1_0 : w_19.cell? ⟨b_l1, 0, none⟩ = some (.slice (some ⟨g0_3, 0, none⟩) zs0.length c0_3) := k_19_l1.cell 0
  have c_19_l1_1 : w_19.cell? ⟨b_l1, 1, none⟩ = some (.int .i64 r0) := k_19_l1.cell 1
  have c_19_l1_2 : w_19.cell? ⟨b_l1, 2, none⟩ = some (.int .i64 r1) := k_19_l1.cell 2
  have c_19_l1_3 : w_19.cell? ⟨b_l1, 3, none⟩ = some (.int .i64 r2) := k_19_l1.cell 3
  have c_19_l1_4 : w_19.cell? ⟨b_l1, 4, none⟩ = some (.int .i64 r3) := k_19_l1.cell 4
  have c_19_l1_5 : w_19.cell? ⟨b_l1, 5, none⟩ = some (.int .i64 r4) := k_19_l1.cell 5
  have c_19_l1_6 : w_19.cell? ⟨b_l1, 6, none⟩ = some (.int .i64 r5) := k_19_l1.cell 6
  have l_19_l1 := k_19_l1.lt
  have k_19_l2 : Blk w_19 (b_l2) 51 #[.slice (some ⟨g0_5, 0, none⟩) n0 n0, .int .i64 a0_0, .int .i64 a0_1, .int .i64 a0_2, .int .i64 a0_3, .int .i64 a0_4, .int .i64 a0_5] := Blk.step (by (with_reducible (repeat (first | assumption | exact Blk.new' (by simp) | apply Blk.drewN | apply Blk.drew | apply Blk.alloc | (refine Blk.far ?_ (by (try simp) <;> omega) _))))) hb_19
  have c_19_l2_0 : w_19.cell? ⟨b_l2, 0, none⟩ = some (.slice (some ⟨g0_5, 0, none⟩) n0 n0) := k_19_l2.cell 0
  have c_19_l2_1 : w_19.cell? ⟨b_l2, 1, none⟩ = some (.int .i64 a0_0) := k_19_l2.cell 1
  have c_19_l2_2 : w_19.cell? ⟨b_l2, 2, none⟩ = some (.int .i64 a0_1) := k_19_l2.cell 2
  have c_19_l2_3 : w_19.cell? ⟨b_l2, 3, none⟩ = some (.int .i64 a0_2) := k_19_l2.cell 3
  have c_19_l2_4 : w_19.cell? ⟨b_l2, 4, none⟩ = some (.int .i64 a0_3) := k_19_l2.cell 4
  have c_19_l2_5 : w_19.cell? ⟨b_l2, 5, none⟩ = some (.int .i64 a0_4) := k_19_l2.cell 5
  have c_19_l2_6 : w_19.cell? ⟨b_l2, 6, none⟩ = some (.int .i64 a0_5) := k_19_l2.cell 6
  have l_19_l2 := k_19_l2.lt
  have k_19_l3 : Blk w_19 (b_l3) 51 #[.slice (some ⟨g0_7, 0, none⟩) zs0.length c0_7, .int .i64 r0, .int .i64 r1, .int .i64 r2, .int .i64 r3, .int .i64 r4, .int .i64 r5] := Blk.step (by (with_reducible (repeat (first | assumption | exact Blk.new' (by simp) | apply Blk.drewN | apply Blk.drew | apply Blk.alloc | (refine Blk.far ?_ (by (try simp) <;> omega) _))))) hb_19
  have c_19_l3_0 : w_19.cell? ⟨b_l3, 0, none⟩ = some (.slice (some ⟨g0_7, 0, none⟩) zs0.length c0_7) := k_19_l3.cell 0
  have c_19_l3_1 : w_19.cell? ⟨b_l3, 1, none⟩ = some (.int .i64 r0) := k_19_l3.cell 1
  have c_19_l3_2 : w_19.cell? ⟨b_l3, 2, none⟩ = some (.int .i64 r1) := k_19_l3.cell 2
  have c_19_l3_3 : w_19.cell? ⟨b_l3, 3, none⟩ = some (.int .i64 r2) := k_19_l3.cell 3
  have c_19_l3_4 : w_19.cell? ⟨b_l3, 4, none⟩ = some (.int .i64 r3) := k_19_l3.cell 4
  have c_19_l3_5 : w_19.cell? ⟨b_l3, 5, none⟩ = some (.int .i64 r4) := k_19_l3.cell 5
  have c_19_l3_6 : w_19.cell? ⟨b_l3, 6, none⟩ = some (.int .i64 r5) := k_19_l3.cell 6
  have l_19_l3 := k_19_l3.lt
  have k_19_l4 : Blk w_19 (b_l4) 51 #[.slice (some ⟨g0_16, 0, none⟩) zs0.length c0_16, .int .i64 r0, .int .i64 r1, .int .i64 r2, .int .i64 r3, .int .i64 r4, .int .i64 r5] := Blk.step (by (with_reducible (repeat (first | assumption | exact Blk.new' (by simp) | apply Blk.drewN | apply Blk.drew | apply Blk.alloc | (refine Blk.far ?_ (by (try simp) <;> omega) _))))) hb_19
  have c_19_l4_0 : w_19.cell? ⟨b_l4, 0, none⟩ = some (.slice (some ⟨g0_16, 0, none⟩) zs0.length c0_16) := k_19_l4.cell 0
  have c_19_l4_1 : w_19.cell? ⟨b_l4, 1, none⟩ = some (.int .i64 r0) := k_19_l4.cell 1
  have c_19_l4_2 : w_19.cell? ⟨b_l4, 2, none⟩ = some (.int .i64 r1) := k_19_l4.cell 2
  have c_19_l4_3 : w_19.cell? ⟨b_l4, 3, none⟩ = some (.int .i64 r2) := k_19_l4.cell 3
  have c_19_l4_4 : w_19.cell? ⟨b_l4, 4, none⟩ = some (.int .i64 r3) := k_19_l4.cell 4
  have c_19_l4_5 : w_19.cell? ⟨b_l4, 5, none⟩ = some (.int .i64 r4) := k_19_l4.cell 5
  have c_19_l4_6 : w_19.cell? ⟨b_l4, 6, none⟩ = some (.int .i64 r5) := k_19_l4.cell 6
  have l_19_l4 := k_19_l4.lt
  have o_19_X3 : OCEvent w_19 g0_5 n0 n0 (marksEvent (1) n0) := OCEvent.step (by with_reducible (repeat (first | assumption | apply OCEvent.drewN | apply OCEvent.drew | apply OCEvent.alloc))) hb_19
  have o_19_X4 : OCEvent w_19 g0_7 zs0.length c0_7 (marksEvent (1) zs0.length) := OCEvent.step (by with_reducible (repeat (first | assumption | apply OCEvent.drewN | apply OCEvent.drew | apply OCEvent.alloc))) hb_19
  have o_19_X6 : OCEvent w_19 g0_16 zs0.length c0_16 zs0 := OCEvent.step (by with_reducible (repeat (first | assumption | apply OCEvent.drewN | apply OCEvent.drew | apply OCEvent.alloc))) hb_19
  clear j_18 k_18_p0 c_18_p0_0 c_18_p0_1 c_18_p0_2 c_18_p0_3 c_18_p0_4 c_18_p0_5 c_18_p0_6 l_18_p0 k_18_l1 c_18_l1_0 c_18_l1_1 c_18_l1_2 c_18_l1_3 c_18_l1_4 c_18_l1_5 c_18_l1_6 l_18_l1 k_18_l2 c_18_l2_0 c_18_l2_1 c_18_l2_2 c_18_l2_3 c_18_l2_4 c_18_l2_5 c_18_l2_6 l_18_l2 k_18_l3 c_18_l3_0 c_18_l3_1 c_18_l3_2 c_18_l3_3 c_18_l3_4 c_18_l3_5 c_18_l3_6 l_18_l3 k_18_l4 c_18_l4_0 c_18_l4_1 c_18_l4_2 c_18_l4_3 c_18_l4_4 c_18_l4_5 c_18_l4_6 l_18_l4 o_18_X3 o_18_X4 o_18_X6 hb_18
  go_wp2
  go_ret
  exact (show Val _ _ _ _ from Val.mk' rfl (IC.out.trans (by (repeat (first | exact In.refl _ | assumption | apply In.alloc | apply In.drewN | apply In.drew | (refine In.step ?_ (by assumption)))))))
end Go.Proofs.Ytmlemplkbkgjfaa
