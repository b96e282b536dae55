/- The law of NightOver. -/
import Derived.Test.YtmcfghklfkmfkaaJ38
import Derived.Test.YtmcfghklfkmfkaaMBakery
import Derived.Test.YtmcfghklfkmfkaaOpBakery
import Derived.Test.YtmcfghklfkmfkaaInv2
import Derived.Test.YtmcfghklfkmfkaaOwnC
namespace Go.Proofs.Ytmcfghklfkmfkaa
open Go.ChangeShapes Go.WideShapes Go.ChangeAt Go.RowKit
set_option linter.unusedVariables false
set_option linter.unusedSimpArgs false
def JINightOvera (w0 : World) (zs0 : List EventR) (r0 : Int) (r1 : Int) (r2 : Int) (r3 : Int) (r4 : Int) (r5 : Int) (r6 : Int) (f0v : Bool) (A0x : Option Addr) (n0x : Nat) (c0x : Nat) (z0x : List Int) (a0_0 : Int) (a0_1 : Int) (a0_2 : Int) (a0_3 : Int) (a0_4 : Int) (A0y : Option Addr) (n0y : Nat) (c0y : Nat) (z0y : List EventR) (a0_5 : Int) (a0_6 : Int) (a0_7 : Int) (a0_8 : Int) (a0_9 : Int) (a0_10 : Int) (a0_11 : Int) (b_p0 : Nat) (g0_2 : Nat) (g1_2 : Nat) (c0_3 : Nat) (g0_3 : Nat) (c1_3 : Nat) (g1_3 : Nat) (b_l1 : Nat) (g0_5 : Nat) (g1_5 : Nat) (b_l2 : Nat) (c0_7 : Nat) (g0_7 : Nat) (c1_7 : Nat) (g1_7 : Nat) (b_l3 : Nat) (a : Act) (w : World) : Prop := (∃ f : Nat → Value, a = ⟨#[Value.agg #[Value.slice A0x n0x c0x, Value.int IntKind.i64 a0_0, Value.int IntKind.i64 a0_1, Value.int IntKind.i64 a0_2, Value.int IntKind.i64 a0_3, Value.int IntKind.i64 a0_4, Value.slice A0y n0y c0y, Value.int IntKind.i64 a0_5, Value.int IntKind.i64 a0_6, Value.int IntKind.i64 a0_7, Value.int IntKind.i64 a0_8, Value.int IntKind.i64 a0_9, Value.int IntKind.i64 a0_10, Value.int IntKind.i64 a0_11], Value.pointer (some { block := b_p0, off := 0 }), Value.bool false, Value.int IntKind.i64 (1048576 - ((n0x : Nat) : Int) - ((n0y : Nat) : Int)), Value.pointer (some { block := b_l1, off := 0 }), Value.bool f0v, Value.pointer (some { block := b_l2, off := 0 }), Value.pointer (some { block := b_l3, off := 0 }), Value.bool f0v, undef, undef, undef, undef, undef, Value.agg #[Value.slice A0x n0x c0x, Value.int IntKind.i64 a0_0, Value.int IntKind.i64 a0_1, Value.int IntKind.i64 a0_2, Value.int IntKind.i64 a0_3, Value.int IntKind.i64 a0_4, Value.slice A0y n0y c0y, Value.int IntKind.i64 a0_5, Value.int IntKind.i64 a0_6, Value.int IntKind.i64 a0_7, Value.int IntKind.i64 a0_8, Value.int IntKind.i64 a0_9, Value.int IntKind.i64 a0_10, Value.int IntKind.i64 a0_11], Value.int IntKind.i64 1048576, Value.int IntKind.i64 (1048576 - ((n0x : Nat) : Int) - ((n0y : Nat) : Int)), Value.int IntKind.i64 (1048576 - ((n0x : Nat) : Int) - ((n0y : Nat) : Int)), Value.bool (decide (1048576 - ((n0x : Nat) : Int) - ((n0y : Nat) : Int) < 0)), Value.tuple #[Value.agg #[Value.slice (some { block := g0_3, off := 0 }) n0x c0_3, Value.int IntKind.i64 a0_0, Value.int IntKind.i64 a0_1, Value.int IntKind.i64 a0_2, Value.int IntKind.i64 a0_3, Value.int IntKind.i64 a0_4, Value.slice (some { block := g1_3, off := 0 }) zs0.length c1_3, Value.int IntKind.i64 r0, Value.int IntKind.i64 r1, Value.int IntKind.i64 r2, Value.int IntKind.i64 r3, Value.int IntKind.i64 r4, Value.int IntKind.i64 r5, Value.int IntKind.i64 r6], Value.bool f0v], Value.agg #[Value.slice A0x n0x c0x, Value.int IntKind.i64 a0_0, Value.int IntKind.i64 a0_1, Value.int IntKind.i64 a0_2, Value.int IntKind.i64 a0_3, Value.int IntKind.i64 a0_4, Value.slice A0y n0y c0y, Value.int IntKind.i64 a0_5, Value.int IntKind.i64 a0_6, Value.int IntKind.i64 a0_7, Value.int IntKind.i64 a0_8, Value.int IntKind.i64 a0_9, Value.int IntKind.i64 a0_10, Value.int IntKind.i64 a0_11], Value.agg #[Value.slice (some { block := g0_2, off := 0 }) n0x n0x, Value.int IntKind.i64 a0_0, Value.int IntKind.i64 a0_1, Value.int IntKind.i64 a0_2, Value.int IntKind.i64 a0_3, Value.int IntKind.i64 a0_4, Value.slice (some { block := g1_2, off := 0 }) n0y n0y, Value.int IntKind.i64 a0_5, Value.int IntKind.i64 a0_6, Value.int IntKind.i64 a0_7, Value.int IntKind.i64 a0_8, Value.int IntKind.i64 a0_9, Value.int IntKind.i64 a0_10, Value.int IntKind.i64 a0_11], Value.tuple #[Value.agg #[Value.slice (some { block := g0_3, off := 0 }) n0x c0_3, Value.int IntKind.i64 a0_0, Value.int IntKind.i64 a0_1, Value.int IntKind.i64 a0_2, Value.int IntKind.i64 a0_3, Value.int IntKind.i64 a0_4, Value.slice (some { block := g1_3, off := 0 }) zs0.length c1_3, Value.int IntKind.i64 r0, Value.int IntKind.i64 r1, Value.int IntKind.i64 r2, Value.int IntKind.i64 r3, Value.int IntKind.i64 r4, Value.int IntKind.i64 r5, Value.int IntKind.i64 r6], Value.bool f0v], Value.agg #[Value.slice (some { block := g0_3, off := 0 }) n0x c0_3, Value.int IntKind.i64 a0_0, Value.int IntKind.i64 a0_1, Value.int IntKind.i64 a0_2, Value.int IntKind.i64 a0_3, Value.int IntKind.i64 a0_4, Value.slice (some { block := g1_3, off := 0 }) zs0.length c1_3, Value.int IntKind.i64 r0, Value.int IntKind.i64 r1, Value.int IntKind.i64 r2, Value.int IntKind.i64 r3, Value.int IntKind.i64 r4, Value.int IntKind.i64 r5, Value.int IntKind.i64 r6], Value.bool f0v, Value.agg #[Value.slice A0x n0x c0x, Value.int IntKind.i64 a0_0, Value.int IntKind.i64 a0_1, Value.int IntKind.i64 a0_2, Value.int IntKind.i64 a0_3, Value.int IntKind.i64 a0_4, Value.slice A0y n0y c0y, Value.int IntKind.i64 a0_5, Value.int IntKind.i64 a0_6, Value.int IntKind.i64 a0_7, Value.int IntKind.i64 a0_8, Value.int IntKind.i64 a0_9, Value.int IntKind.i64 a0_10, Value.int IntKind.i64 a0_11], Value.agg #[Value.slice (some { block := g0_5, off := 0 }) n0x n0x, Value.int IntKind.i64 a0_0, Value.int IntKind.i64 a0_1, Value.int IntKind.i64 a0_2, Value.int IntKind.i64 a0_3, Value.int IntKind.i64 a0_4, Value.slice (some { block := g1_5, off := 0 }) n0y n0y, Value.int IntKind.i64 a0_5, Value.int IntKind.i64 a0_6, Value.int IntKind.i64 a0_7, Value.int IntKind.i64 a0_8, Value.int IntKind.i64 a0_9, Value.int IntKind.i64 a0_10, Value.int IntKind.i64 a0_11], Value.tuple #[Value.agg #[Value.slice (some { block := g0_7, off := 0 }) n0x c0_7, Value.int IntKind.i64 a0_0, Value.int IntKind.i64 a0_1, Value.int IntKind.i64 a0_2, Value.int IntKind.i64 a0_3, Value.int IntKind.i64 a0_4, Value.slice (some { block := g1_7, off := 0 }) zs0.length c1_7, Value.int IntKind.i64 r0, Value.int IntKind.i64 r1, Value.int IntKind.i64 r2, Value.int IntKind.i64 r3, Value.int IntKind.i64 r4, Value.int IntKind.i64 r5, Value.int IntKind.i64 r6], Value.bool f0v], Value.agg #[Value.slice (some { block := g0_5, off := 0 }) n0x n0x, Value.int IntKind.i64 a0_0, Value.int IntKind.i64 a0_1, Value.int IntKind.i64 a0_2, Value.int IntKind.i64 a0_3, Value.int IntKind.i64 a0_4, Value.slice (some { block := g1_5, off := 0 }) n0y n0y, Value.int IntKind.i64 a0_5, Value.int IntKind.i64 a0_6, Value.int IntKind.i64 a0_7, Value.int IntKind.i64 a0_8, Value.int IntKind.i64 a0_9, Value.int IntKind.i64 a0_10, Value.int IntKind.i64 a0_11], Value.tuple #[Value.agg #[Value.slice (some { block := g0_7, off := 0 }) n0x c0_7, Value.int IntKind.i64 a0_0, Value.int IntKind.i64 a0_1, Value.int IntKind.i64 a0_2, Value.int IntKind.i64 a0_3, Value.int IntKind.i64 a0_4, Value.slice (some { block := g1_7, off := 0 }) zs0.length c1_7, Value.int IntKind.i64 r0, Value.int IntKind.i64 r1, Value.int IntKind.i64 r2, Value.int IntKind.i64 r3, Value.int IntKind.i64 r4, Value.int IntKind.i64 r5, Value.int IntKind.i64 r6], Value.bool f0v], Value.agg #[Value.slice (some { block := g0_7, off := 0 }) n0x c0_7, Value.int IntKind.i64 a0_0, Value.int IntKind.i64 a0_1, Value.int IntKind.i64 a0_2, Value.int IntKind.i64 a0_3, Value.int IntKind.i64 a0_4, Value.slice (some { block := g1_7, off := 0 }) zs0.length c1_7, Value.int IntKind.i64 r0, Value.int IntKind.i64 r1, Value.int IntKind.i64 r2, Value.int IntKind.i64 r3, Value.int IntKind.i64 r4, Value.int IntKind.i64 r5, Value.int IntKind.i64 r6], Value.bool f0v, Value.agg #[Value.slice (some { block := g0_7, off := 0 }) n0x c0_7, Value.int IntKind.i64 a0_0, Value.int IntKind.i64 a0_1, Value.int IntKind.i64 a0_2, Value.int IntKind.i64 a0_3, Value.int IntKind.i64 a0_4, Value.slice (some { block := g1_7, off := 0 }) zs0.length c1_7, Value.int IntKind.i64 r0, Value.int IntKind.i64 r1, Value.int IntKind.i64 r2, Value.int IntKind.i64 r3, Value.int IntKind.i64 r4, Value.int IntKind.i64 r5, Value.int IntKind.i64 r6], Value.agg #[Value.slice (some { block := g0_3, off := 0 }) n0x c0_3, Value.int IntKind.i64 a0_0, Value.int IntKind.i64 a0_1, Value.int IntKind.i64 a0_2, Value.int IntKind.i64 a0_3, Value.int IntKind.i64 a0_4, Value.slice (some { block := g1_3, off := 0 }) zs0.length c1_3, Value.int IntKind.i64 r0, Value.int IntKind.i64 r1, Value.int IntKind.i64 r2, Value.int IntKind.i64 r3, Value.int IntKind.i64 r4, Value.int IntKind.i64 r5, Value.int IntKind.i64 r6], Value.bool true, Value.bool false, Value.bool false, Value.bool f0v, Value.bool f0v, Value.bool false, Value.bool false, f 41, f 42, f 43, f 44, f 45, undef, undef, undef, undef, undef, undef, undef, undef, undef, undef, undef, undef, undef, undef, undef, undef, undef, undef, undef, undef, undef, undef, undef, undef, undef, undef, undef, undef, undef, undef, undef, undef, undef, undef, undef, undef, undef, undef, undef, undef, undef, undef, undef, undef, undef, undef, undef, undef, undef, undef], []⟩) ∧ In w0.heap.size w0 w
def JFNightOvera (B : Nat) (zs0 : List EventR) (r0 : Int) (r1 : Int) (r2 : Int) (r3 : Int) (r4 : Int) (r5 : Int) (r6 : Int) (f0v : Bool) (A0x : Option Addr) (n0x : Nat) (c0x : Nat) (z0x : List Int) (a0_0 : Int) (a0_1 : Int) (a0_2 : Int) (a0_3 : Int) (a0_4 : Int) (A0y : Option Addr) (n0y : Nat) (c0y : Nat) (z0y : List EventR) (a0_5 : Int) (a0_6 : Int) (a0_7 : Int) (a0_8 : Int) (a0_9 : Int) (a0_10 : Int) (a0_11 : Int) (b_p0 : Nat) (g0_2 : Nat) (g1_2 : Nat) (c0_3 : Nat) (g0_3 : Nat) (c1_3 : Nat) (g1_3 : Nat) (b_l1 : Nat) (g0_5 : Nat) (g1_5 : Nat) (b_l2 : Nat) (c0_7 : Nat) (g0_7 : Nat) (c1_7 : Nat) (g1_7 : Nat) (b_l3 : Nat) : Nat → Act → World → Prop
  | 0, a, w => a.tmps[41]? = some (.agg #[.slice (some ⟨g0_5, 0, none⟩) n0x n0x, .int .i64 a0_0, .int .i64 a0_1, .int .i64 a0_2, .int .i64 a0_3, .int .i64 a0_4, .slice (some ⟨g1_5, 0, none⟩) n0y n0y, .int .i64 a0_5, .int .i64 a0_6, .int .i64 a0_7, .int .i64 a0_8, .int .i64 a0_9, .int .i64 a0_10, .int .i64 a0_11])
  | 1, a, w => a.tmps[42]? = some (.agg #[.slice A0x n0x c0x, .int .i64 a0_0, .int .i64 a0_1, .int .i64 a0_2, .int .i64 a0_3, .int .i64 a0_4, .slice A0y n0y c0y, .int .i64 a0_5, .int .i64 a0_6, .int .i64 a0_7, .int .i64 a0_8, .int .i64 a0_9, .int .i64 a0_10, .int .i64 a0_11])
  | 2, a, w => ∃ (g0 c0 g1 c1 : Nat), a.tmps[43]? = some (.agg #[.slice (some ⟨g0, 0, none⟩) n0x c0, .int .i64 a0_0, .int .i64 a0_1, .int .i64 a0_2, .int .i64 a0_3, .int .i64 a0_4, .slice (some ⟨g1, 0, none⟩) n0y c1, .int .i64 a0_5, .int .i64 a0_6, .int .i64 a0_7, .int .i64 a0_8, .int .i64 a0_9, .int .i64 a0_10, .int .i64 a0_11]) ∧ B ≤ g0 ∧ OwnC w g0 n0x c0 z0x ∧ B ≤ g1 ∧ OCEvent w g1 n0y c1 z0y
  | 3, a, w => a.tmps[44]? = some (.bool true)
  | 4, a, w => a.tmps[45]? = some (.bool false)
  | _, _, _ => True
set_option maxHeartbeats 4000000 in
theorem walk_FnExactNightOver (A0x : Option Addr) (n0x c0x : Nat) (z0x : List Int) (a0_0 : Int) (ua0_0 : (Lit.int .i64 a0_0).wf = true) (a0_1 : Int) (ua0_1 : (Lit.int .i64 a0_1).wf = true) (a0_2 : Int) (ua0_2 : (Lit.int .i64 a0_2).wf = true) (a0_3 : Int) (ua0_3 : (Lit.int .i64 a0_3).wf = true) (a0_4 : Int) (ua0_4 : (Lit.int .i64 a0_4).wf = true) (A0y : Option Addr) (n0y c0y : Nat) (z0y : List EventR) (a0_5 : Int) (ua0_5 : (Lit.int .i64 a0_5).wf = true) (a0_6 : Int) (ua0_6 : (Lit.int .i64 a0_6).wf = true) (a0_7 : Int) (ua0_7 : (Lit.int .i64 a0_7).wf = true) (a0_8 : Int) (ua0_8 : (Lit.int .i64 a0_8).wf = true) (a0_9 : Int) (ua0_9 : (Lit.int .i64 a0_9).wf = true) (a0_10 : Int) (ua0_10 : (Lit.int .i64 a0_10).wf = true) (a0_11 : Int) (ua0_11 : (Lit.int .i64 a0_11).wf = true) (w : World) (m0x : n0x ≤ maxLen) (w0x : ReadsI w A0x n0x z0x) (m0y : n0y ≤ maxLen) (w0y : ReadsEvent w A0y n0y z0y) :
    Calls Try.prog 3 #[.agg #[.slice A0x n0x c0x, .int .i64 a0_0, .int .i64 a0_1, .int .i64 a0_2, .int .i64 a0_3, .int .i64 a0_4, .slice A0y n0y c0y, .int .i64 a0_5, .int .i64 a0_6, .int .i64 a0_7, .int .i64 a0_8, .int .i64 a0_9, .int .i64 a0_10, .int .i64 a0_11]] w fun e w' => e = .returned (.bool true) ∧ Below w.heap.size w w' := by
  clear ua0_0 ua0_1 ua0_2 ua0_3 ua0_4 ua0_5 ua0_6 ua0_7 ua0_8 ua0_9 ua0_10 ua0_11
  have R0x := Lib.hid w0x
  have L0x := w0x.1
  clear w0x
  have R0y := Lib.hid w0y
  have L0y := w0y.1
  clear w0y
  have HLL0x := Lib.hid L0x
  clear L0x
  have HLL0y := Lib.hid L0y
  clear L0y
  by_cases g0 : (1048576 : Int) < (n0x : Int) + (n0y : Int)
  · go_enter Try.func3, Try.ntmps3
    go_wp2_with fail
    refine (szBakery_w A0x n0x c0x A0y n0y c0y a0_0 a0_1 a0_2 a0_3 a0_4 a0_5 a0_6 a0_7 a0_8 a0_9 a0_10 a0_11 (1048576) _ m0x m0y (by omega) (by omega)).mono ?_
    rintro _ w_1 ⟨rfl, hb_1⟩
    rw [if_pos (by omega)]
    have i_1 : In w.heap.size w w_1 := In.step (by (repeat (first | exact In.refl _ | assumption | apply In.alloc | apply In.drewN | apply In.drew | (refine In.step ?_ (by assumption))))) hb_1
    go_wp2
    go_ret
    exact (show Val _ _ _ _ from Val.mk' rfl (by (repeat (first | exact In.refl _ | assumption | apply In.alloc | apply In.drewN | apply In.drew | (refine In.step ?_ (by assumption))))))
  have g0' : (n0x : Int) + (n0y : Int) ≤ (1048576 : Int) := by omega
  clear g0
  have hm0x : n0x ≤ 1048576 := by omega
  have hm0y : n0y ≤ 1048576 := by omega
  obtain ⟨zs0, hzs0⟩ : ∃ x, yeL n0x z0x n0y z0y a0_0 a0_1 a0_2 a0_3 a0_4 a0_5 a0_6 a0_7 a0_8 a0_9 a0_10 a0_11 4 0 0 = x := ⟨_, rfl⟩
  have hzl : zs0.length ≤ 1048576 := by rw [← hzs0]; unfold yeL; (split; exact enL_le R0y.out.1 hm0y; (have h := R0y.out.1; omega))
  obtain ⟨s9, hss9⟩ : ∃ x, yeS n0x z0x n0y z0y a0_0 a0_1 a0_2 a0_3 a0_4 a0_5 a0_6 a0_7 a0_8 a0_9 a0_10 a0_11 4 0 0 = x := ⟨_, rfl⟩
  obtain ⟨r0, r1, r2, r3, r4, r5⟩ := s9
  obtain ⟨r6, hmm9⟩ : ∃ x, yeM n0x z0x n0y z0y a0_0 a0_1 a0_2 a0_3 a0_4 a0_5 a0_6 a0_7 a0_8 a0_9 a0_10 a0_11 4 0 0 = x := ⟨_, rfl⟩
  obtain ⟨f0v, hfv9⟩ : ∃ x, yeB n0x z0x n0y z0y a0_0 a0_1 a0_2 a0_3 a0_4 a0_5 a0_6 a0_7 a0_8 a0_9 a0_10 a0_11 4 0 0 = x := ⟨_, rfl⟩
  have HsC : Hid (∀ (g c h d : Nat) (W : World), ReadsI W (some ⟨g, 0, none⟩) n0x z0x → ReadsEvent W (some ⟨h, 0, none⟩) n0y z0y → Calls Try.prog 9 #[.agg #[.slice (some ⟨g, 0, none⟩) n0x c, .int .i64 a0_0, .int .i64 a0_1, .int .i64 a0_2, .int .i64 a0_3, .int .i64 a0_4, .slice (some ⟨h, 0, none⟩) n0y d, .int .i64 a0_5, .int .i64 a0_6, .int .i64 a0_7, .int .i64 a0_8, .int .i64 a0_9, .int .i64 a0_10, .int .i64 a0_11]] W (fun e w' => ∃ g c h d, e = .returned (.tuple #[.agg #[.slice (some ⟨g, 0, none⟩) n0x c, .int .i64 a0_0, .int .i64 a0_1, .int .i64 a0_2, .int .i64 a0_3, .int .i64 a0_4, .slice (some ⟨h, 0, none⟩) zs0.length d, .int .i64 r0, .int .i64 r1, .int .i64 r2, .int .i64 r3, .int .i64 r4, .int .i64 r5, .int .i64 r6], .bool f0v]) ∧ OwnC w' g n0x c z0x ∧ W.heap.size ≤ g ∧ OCEvent w' h zs0.length d zs0 ∧ W.heap.size ≤ h ∧ Below W.heap.size W w')) := Lib.hid (fun g c h d W hx hy => by
    have h9 := sNightOver g n0x c z0x h n0y d z0y a0_0 a0_1 a0_2 a0_3 a0_4 a0_5 a0_6 a0_7 a0_8 a0_9 a0_10 a0_11 W (by omega) (by omega) hx hy
    rw [hzs0, hss9, hmm9, hfv9] at h9
    exact h9)
  have HiC : Hid (∀ (g c h d : Nat) (W : World), ReadsI W (some ⟨g, 0, none⟩) n0x z0x → ReadsEvent W (some ⟨h, 0, none⟩) n0y z0y → Calls Try.prog 11 #[.agg #[.slice (some ⟨g, 0, none⟩) n0x c, .int .i64 a0_0, .int .i64 a0_1, .int .i64 a0_2, .int .i64 a0_3, .int .i64 a0_4, .slice (some ⟨h, 0, none⟩) n0y d, .int .i64 a0_5, .int .i64 a0_6, .int .i64 a0_7, .int .i64 a0_8, .int .i64 a0_9, .int .i64 a0_10, .int .i64 a0_11]] W (fun e w' => ∃ g c h d, e = .returned (.tuple #[.agg #[.slice (some ⟨g, 0, none⟩) n0x c, .int .i64 a0_0, .int .i64 a0_1, .int .i64 a0_2, .int .i64 a0_3, .int .i64 a0_4, .slice (some ⟨h, 0, none⟩) zs0.length d, .int .i64 r0, .int .i64 r1, .int .i64 r2, .int .i64 r3, .int .i64 r4, .int .i64 r5, .int .i64 r6], .bool f0v]) ∧ OwnC w' g n0x c z0x ∧ W.heap.size ≤ g ∧ OCEvent w' h zs0.length d zs0 ∧ W.heap.size ≤ h ∧ Below W.heap.size W w')) := Lib.hid (fun g c h d W hx hy => by
    have h9 := iNightOver g n0x c z0x h n0y d z0y a0_0 a0_1 a0_2 a0_3 a0_4 a0_5 a0_6 a0_7 a0_8 a0_9 a0_10 a0_11 W (by omega) (by omega) hx hy
    rw [hzs0, hss9, hmm9, hfv9] at h9
    exact h9)
  clear hzs0 hss9 hfv9 hmm9
  obtain ⟨b_p0, hbx_p0⟩ : ∃ b, b = w.heap.size := ⟨_, rfl⟩
  have kk_p0 : Blk (w.alloc (.cells #[.slice A0x n0x c0x, .int .i64 a0_0, .int .i64 a0_1, .int .i64 a0_2, .int .i64 a0_3, .int .i64 a0_4, .slice A0y n0y c0y, .int .i64 a0_5, .int .i64 a0_6, .int .i64 a0_7, .int .i64 a0_8, .int .i64 a0_9, .int .i64 a0_10, .int .i64 a0_11] 35)) b_p0 35 #[.slice A0x n0x c0x, .int .i64 a0_0, .int .i64 a0_1, .int .i64 a0_2, .int .i64 a0_3, .int .i64 a0_4, .slice A0y n0y c0y, .int .i64 a0_5, .int .i64 a0_6, .int .i64 a0_7, .int .i64 a0_8, .int .i64 a0_9, .int .i64 a0_10, .int .i64 a0_11] := (Blk.new' (w := w) (t := 35) (cs := #[.slice A0x n0x c0x, .int .i64 a0_0, .int .i64 a0_1, .int .i64 a0_2, .int .i64 a0_3, .int .i64 a0_4, .slice A0y n0y c0y, .int .i64 a0_5, .int .i64 a0_6, .int .i64 a0_7, .int .i64 a0_8, .int .i64 a0_9, .int .i64 a0_10, .int .i64 a0_11]) (g := b_p0) (by simp [hbx_p0]))
  have hb_0 : Below w.heap.size w (w.alloc (.cells #[.slice A0x n0x c0x, .int .i64 a0_0, .int .i64 a0_1, .int .i64 a0_2, .int .i64 a0_3, .int .i64 a0_4, .slice A0y n0y c0y, .int .i64 a0_5, .int .i64 a0_6, .int .i64 a0_7, .int .i64 a0_8, .int .i64 a0_9, .int .i64 a0_10, .int .i64 a0_11] 35)) := by
    have h : In w.heap.size w (w.alloc (.cells #[.slice A0x n0x c0x, .int .i64 a0_0, .int .i64 a0_1, .int .i64 a0_2, .int .i64 a0_3, .int .i64 a0_4, .slice A0y n0y c0y, .int .i64 a0_5, .int .i64 a0_6, .int .i64 a0_7, .int .i64 a0_8, .int .i64 a0_9, .int .i64 a0_10, .int .i64 a0_11] 35)) := by (repeat (first | exact In.refl _ | assumption | apply In.alloc | apply In.drewN | apply In.drew | (refine In.step ?_ (by assumption))))
    exact h.below
  go_enter Try.func3, Try.ntmps3
  go_wp2_with fail
  rw [← hbx_p0]
  clear hbx_p0
  generalize (w.alloc (.cells #[.slice A0x n0x c0x, .int .i64 a0_0, .int .i64 a0_1, .int .i64 a0_2, .int .i64 a0_3, .int .i64 a0_4, .slice A0y n0y c0y, .int .i64 a0_5, .int .i64 a0_6, .int .i64 a0_7, .int .i64 a0_8, .int .i64 a0_9, .int .i64 a0_10, .int .i64 a0_11] 35)) = w_0 at *
  have i_0 : In w.heap.size w w_0 := In.step (by (repeat (first | exact In.refl _ | assumption | apply In.alloc | apply In.drewN | apply In.drew | (refine In.step ?_ (by assumption))))) hb_0
  have k_0_p0 : Blk w_0 (b_p0) 35 #[.slice A0x n0x c0x, .int .i64 a0_0, .int .i64 a0_1, .int .i64 a0_2, .int .i64 a0_3, .int .i64 a0_4, .slice A0y n0y c0y, .int .i64 a0_5, .int .i64 a0_6, .int .i64 a0_7, .int .i64 a0_8, .int .i64 a0_9, .int .i64 a0_10, .int .i64 a0_11] := kk_p0
  obtain ⟨c_0_p0_0, c_0_p0_1, c_0_p0_2, c_0_p0_3, c_0_p0_4, c_0_p0_5, c_0_p0_6, c_0_p0_7, c_0_p0_8, c_0_p0_9, c_0_p0_10, c_0_p0_11, c_0_p0_12, c_0_p0_13⟩ := cells14 k_0_p0
  have l_0_p0 := k_0_p0.lt
  clear kk_p0
  go_wp2_with fail
  refine (szBakery_w A0x n0x c0x A0y n0y c0y a0_0 a0_1 a0_2 a0_3 a0_4 a0_5 a0_6 a0_7 a0_8 a0_9 a0_10 a0_11 (1048576) _ m0x m0y (by omega) (by omega)).mono ?_
  rintro _ w_1 ⟨rfl, hb_1⟩
  rw [if_neg (by omega)]
  have i_1 : In w.heap.size w w_1 := In.step (by (repeat (first | exact In.refl _ | assumption | apply In.alloc | apply In.drewN | apply In.drew | (refine In.step ?_ (by assumption))))) hb_1
  have k_1_p0 : Blk w_1 (b_p0) 35 #[.slice A0x n0x c0x, .int .i64 a0_0, .int .i64 a0_1, .int .i64 a0_2, .int .i64 a0_3, .int .i64 a0_4, .slice A0y n0y c0y, .int .i64 a0_5, .int .i64 a0_6, .int .i64 a0_7, .int .i64 a0_8, .int .i64 a0_9, .int .i64 a0_10, .int .i64 a0_11] := Blk.step (by (with_reducible (repeat (first | assumption | exact Blk.new' (by simp) | apply Blk.drewN | apply Blk.drew | apply Blk.alloc | (refine Blk.far ?_ (by (try simp) <;> omega) _))))) hb_1
  obtain ⟨c_1_p0_0, c_1_p0_1, c_1_p0_2, c_1_p0_3, c_1_p0_4, c_1_p0_5, c_1_p0_6, c_1_p0_7, c_1_p0_8, c_1_p0_9, c_1_p0_10, c_1_p0_11, c_1_p0_12, c_1_p0_13⟩ := cells14 k_1_p0
  have l_1_p0 := k_1_p0.lt
  clear i_0 k_0_p0 c_0_p0_0 c_0_p0_1 c_0_p0_2 c_0_p0_3 c_0_p0_4 c_0_p0_5 c_0_p0_6 c_0_p0_7 c_0_p0_8 c_0_p0_9 c_0_p0_10 c_0_p0_11 c_0_p0_12 c_0_p0_13 l_0_p0 hb_0
  go_wp2_with fail
  refine (toBakery_w A0x n0x c0x z0x A0y n0y c0y z0y a0_0 a0_1 a0_2 a0_3 a0_4 a0_5 a0_6 a0_7 a0_8 a0_9 a0_10 a0_11 _ (by first | omega | (unfold maxLen; omega)) (by first | omega | (unfold maxLen; omega)) (R0x.out.in_ (by (repeat (first | exact In.refl _ | assumption | apply In.alloc | apply In.drewN | apply In.drew | (refine In.step ?_ (by assumption)))))) (R0y.out.in_ (by (repeat (first | exact In.refl _ | assumption | apply In.alloc | apply In.drewN | apply In.drew | (refine In.step ?_ (by assumption))))))).mono ?_
  rintro _ w_2 ⟨g0_2, g1_2, rfl, ho0_2, hg0_2, ho1_2, hg1_2, hb_2⟩
  have o_2_X1 : OwnC w_2 g0_2 n0x n0x z0x := ho0_2
  clear ho0_2 hg0_2
  have NE_X1_X2 : Hid (g0_2 ≠ g1_2) := Lib.hid (ne_IE o_2_X1 ho1_2)
  have o_2_X2 : OCEvent w_2 g1_2 n0y n0y z0y := ho1_2
  clear ho1_2 hg1_2
  have i_2 : In w.heap.size w w_2 := In.step (by (repeat (first | exact In.refl _ | assumption | apply In.alloc | apply In.drewN | apply In.drew | (refine In.step ?_ (by assumption))))) hb_2
  have k_2_p0 : Blk w_2 (b_p0) 35 #[.slice A0x n0x c0x, .int .i64 a0_0, .int .i64 a0_1, .int .i64 a0_2, .int .i64 a0_3, .int .i64 a0_4, .slice A0y n0y c0y, .int .i64 a0_5, .int .i64 a0_6, .int .i64 a0_7, .int .i64 a0_8, .int .i64 a0_9, .int .i64 a0_10, .int .i64 a0_11] := Blk.step (by (with_reducible (repeat (first | assumption | exact Blk.new' (by simp) | apply Blk.drewN | apply Blk.drew | apply Blk.alloc | (refine Blk.far ?_ (by (try simp) <;> omega) _))))) hb_2
  have l_2_p0 := k_2_p0.lt
  clear i_1 k_1_p0 c_1_p0_0 c_1_p0_1 c_1_p0_2 c_1_p0_3 c_1_p0_4 c_1_p0_5 c_1_p0_6 c_1_p0_7 c_1_p0_8 c_1_p0_9 c_1_p0_10 c_1_p0_11 c_1_p0_12 c_1_p0_13 l_1_p0 hb_1
  go_wp2_with fail
  refine (HsC.out g0_2 n0x g1_2 n0y _ (OwnC.reads (by with_reducible (repeat (first | assumption | apply OwnC.drewN | apply OwnC.drew | apply OwnC.alloc)))) (OCEvent.reads (by with_reducible (repeat (first | assumption | apply OCEvent.drewN | apply OCEvent.drew | apply OCEvent.alloc))))).mono ?_
  rintro _ w_3 ⟨g0_3, c0_3, g1_3, c1_3, rfl, ho0_3, hg0_3, ho1_3, hg1_3, hb_3⟩
  have o_3_X3 : OwnC w_3 g0_3 n0x c0_3 z0x := ho0_3
  clear ho0_3 hg0_3
  have NE_X3_X4 : Hid (g0_3 ≠ g1_3) := Lib.hid (ne_IE o_3_X3 ho1_3)
  have o_3_X4 : OCEvent w_3 g1_3 zs0.length c1_3 zs0 := ho1_3
  clear ho1_3 hg1_3
  have i_3 : In w.heap.size w w_3 := In.step (by (repeat (first | exact In.refl _ | assumption | apply In.alloc | apply In.drewN | apply In.drew | (refine In.step ?_ (by assumption))))) hb_3
  have k_3_p0 : Blk w_3 (b_p0) 35 #[.slice A0x n0x c0x, .int .i64 a0_0, .int .i64 a0_1, .int .i64 a0_2, .int .i64 a0_3, .int .i64 a0_4, .slice A0y n0y c0y, .int .i64 a0_5, .int .i64 a0_6, .int .i64 a0_7, .int .i64 a0_8, .int .i64 a0_9, .int .i64 a0_10, .int .i64 a0_11] := Blk.step (by (with_reducible (repeat (first | assumption | exact Blk.new' (by simp) | apply Blk.drewN | apply Blk.drew | apply Blk.alloc | (refine Blk.far ?_ (by (try simp) <;> omega) _))))) hb_3
  obtain ⟨c_3_p0_0, c_3_p0_1, c_3_p0_2, c_3_p0_3, c_3_p0_4, c_3_p0_5, c_3_p0_6, c_3_p0_7, c_3_p0_8, c_3_p0_9, c_3_p0_10, c_3_p0_11, c_3_p0_12, c_3_p0_13⟩ := cells14 k_3_p0
  have l_3_p0 := k_3_p0.lt
  clear i_2 k_2_p0 l_2_p0 o_2_X1 o_2_X2 hb_2
  go_wp2_with fail
  obtain ⟨b_l1, hbx_l1⟩ : ∃ b, b = w_3.heap.size := ⟨_, rfl⟩
  rw [← hbx_l1]
  have hb_4 : Below w_3.heap.size w_3 (w_3.alloc (.cells #[.slice (some ⟨g0_3, 0, none⟩) n0x c0_3, .int .i64 a0_0, .int .i64 a0_1, .int .i64 a0_2, .int .i64 a0_3, .int .i64 a0_4, .slice (some ⟨g1_3, 0, none⟩) zs0.length c1_3, .int .i64 r0, .int .i64 r1, .int .i64 r2, .int .i64 r3, .int .i64 r4, .int .i64 r5, .int .i64 r6] 45)) := (Below.refl _ _).alloc (Nat.le_refl _) _
  have kk_4 : Blk (w_3.alloc (.cells #[.slice (some ⟨g0_3, 0, none⟩) n0x c0_3, .int .i64 a0_0, .int .i64 a0_1, .int .i64 a0_2, .int .i64 a0_3, .int .i64 a0_4, .slice (some ⟨g1_3, 0, none⟩) zs0.length c1_3, .int .i64 r0, .int .i64 r1, .int .i64 r2, .int .i64 r3, .int .i64 r4, .int .i64 r5, .int .i64 r6] 45)) b_l1 45 #[.slice (some ⟨g0_3, 0, none⟩) n0x c0_3, .int .i64 a0_0, .int .i64 a0_1, .int .i64 a0_2, .int .i64 a0_3, .int .i64 a0_4, .slice (some ⟨g1_3, 0, none⟩) zs0.length c1_3, .int .i64 r0, .int .i64 r1, .int .i64 r2, .int .i64 r3, .int .i64 r4, .int .i64 r5, .int .i64 r6] := Blk.new' hbx_l1
  clear hbx_l1
  generalize (w_3.alloc (.cells #[.slice (some ⟨g0_3, 0, none⟩) n0x c0_3, .int .i64 a0_0, .int .i64 a0_1, .int .i64 a0_2, .int .i64 a0_3, .int .i64 a0_4, .slice (some ⟨g1_3, 0, none⟩) zs0.length c1_3, .int .i64 r0, .int .i64 r1, .int .i64 r2, .int .i64 r3, .int .i64 r4, .int .i64 r5, .int .i64 r6] 45)) = w_4 at *
  have i_4 : In w.heap.size w w_4 := In.step (by (repeat (first | exact In.refl _ | assumption | apply In.alloc | apply In.drewN | apply In.drew | (refine In.step ?_ (by assumption))))) hb_4
  have k_4_p0 : Blk w_4 (b_p0) 35 #[.slice A0x n0x c0x, .int .i64 a0_0, .int .i64 a0_1, .int .i64 a0_2, .int .i64 a0_3, .int .i64 a0_4, .slice A0y n0y c0y, .int .i64 a0_5, .int .i64 a0_6, .int .i64 a0_7, .int .i64 a0_8, .int .i64 a0_9, .int .i64 a0_10, .int .i64 a0_11] := Blk.step (by (with_reducible (repeat (first | assumption | exact Blk.new' (by simp) | apply Blk.drewN | apply Blk.drew | apply Blk.alloc | (refine Blk.far ?_ (by (try simp) <;> omega) _))))) hb_4
  obtain ⟨c_4_p0_0, c_4_p0_1, c_4_p0_2, c_4_p0_3, c_4_p0_4, c_4_p0_5, c_4_p0_6, c_4_p0_7, c_4_p0_8, c_4_p0_9, c_4_p0_10, c_4_p0_11, c_4_p0_12, c_4_p0_13⟩ := cells14 k_4_p0
  have l_4_p0 := k_4_p0.lt
  have k_4_l1 : Blk w_4 (b_l1) 45 #[.slice (some ⟨g0_3, 0, none⟩) n0x c0_3, .int .i64 a0_0, .int .i64 a0_1, .int .i64 a0_2, .int .i64 a0_3, .int .i64 a0_4, .slice (some ⟨g1_3, 0, none⟩) zs0.length c1_3, .int .i64 r0, .int .i64 r1, .int .i64 r2, .int .i64 r3, .int .i64 r4, .int .i64 r5, .int .i64 r6] := kk_4
  have l_4_l1 := k_4_l1.lt
  have o_4_X3 : OwnC w_4 g0_3 n0x c0_3 z0x := OwnC.step (by with_reducible (repeat (first | assumption | apply OwnC.drewN | apply OwnC.drew | apply OwnC.alloc))) hb_4
  have o_4_X4 : OCEvent w_4 g1_3 zs0.length c1_3 zs0 := OCEvent.step (by with_reducible (repeat (first | assumption | apply OCEvent.drewN | apply OCEvent.drew | apply OCEvent.alloc))) hb_4
  clear i_3 k_3_p0 c_3_p0_0 c_3_p0_1 c_3_p0_2 c_3_p0_3 c_3_p0_4 c_3_p0_5 c_3_p0_6 c_3_p0_7 c_3_p0_8 c_3_p0_9 c_3_p0_10 c_3_p0_11 c_3_p0_12 c_3_p0_13 l_3_p0 o_3_X3 o_3_X4 hb_3
  clear kk_4
  have HW0 := Lib.hid (OwnC.reads o_4_X3)
  have HW1 := Lib.hid (OCEvent.reads o_4_X4)
  clear o_4_X3
  clear o_4_X4
  have IC := Lib.hid i_4
  have j_4 : In w_4.heap.size w_4 w_4 := In.refl _
  go_wp2_with fail
  refine (toBakery_w A0x n0x c0x z0x A0y n0y c0y z0y a0_0 a0_1 a0_2 a0_3 a0_4 a0_5 a0_6 a0_7 a0_8 a0_9 a0_10 a0_11 _ (by first | omega | (unfold maxLen; omega)) (by first | omega | (unfold maxLen; omega)) (R0x.out.in_ (IC.out.trans (by (repeat (first | exact In.refl _ | assumption | apply In.alloc | apply In.drewN | apply In.drew | (refine In.step ?_ (by assumption))))))) (R0y.out.in_ (IC.out.trans (by (repeat (first | exact In.refl _ | assumption | apply In.alloc | apply In.drewN | apply In.drew | (refine In.step ?_ (by assumption)))))))).mono ?_
  rintro _ w_5 ⟨g0_5, g1_5, rfl, ho0_5, hg0_5, ho1_5, hg1_5, hb_5⟩
  have GX_X5 : Hid (w_4.heap.size ≤ g0_5) := Lib.hid (by have h1 := hg0_5; (try simp at h1); have h2 := In.size j_4; omega)
  have o_5_X5 : OwnC w_5 g0_5 n0x n0x z0x := ho0_5
  clear ho0_5 hg0_5
  have NE_X5_X6 : Hid (g0_5 ≠ g1_5) := Lib.hid (ne_IE o_5_X5 ho1_5)
  have GX_X6 : Hid (w_4.heap.size ≤ g1_5) := Lib.hid (by have h1 := hg1_5; (try simp at h1); have h2 := In.size j_4; omega)
  have o_5_X6 : OCEvent w_5 g1_5 n0y n0y z0y := ho1_5
  clear ho1_5 hg1_5
  have j_5 : In w_4.heap.size w_4 w_5 := In.step (by (repeat (first | exact In.refl _ | assumption | apply In.alloc | apply In.drewN | apply In.drew | (refine In.step ?_ (by assumption))))) hb_5
  have k_5_p0 : Blk w_5 (b_p0) 35 #[.slice A0x n0x c0x, .int .i64 a0_0, .int .i64 a0_1, .int .i64 a0_2, .int .i64 a0_3, .int .i64 a0_4, .slice A0y n0y c0y, .int .i64 a0_5, .int .i64 a0_6, .int .i64 a0_7, .int .i64 a0_8, .int .i64 a0_9, .int .i64 a0_10, .int .i64 a0_11] := Blk.step (by (with_reducible (repeat (first | assumption | exact Blk.new' (by simp) | apply Blk.drewN | apply Blk.drew | apply Blk.alloc | (refine Blk.far ?_ (by (try simp) <;> omega) _))))) hb_5
  have l_5_p0 := k_5_p0.lt
  have k_5_l1 : Blk w_5 (b_l1) 45 #[.slice (some ⟨g0_3, 0, none⟩) n0x c0_3, .int .i64 a0_0, .int .i64 a0_1, .int .i64 a0_2, .int .i64 a0_3, .int .i64 a0_4, .slice (some ⟨g1_3, 0, none⟩) zs0.length c1_3, .int .i64 r0, .int .i64 r1, .int .i64 r2, .int .i64 r3, .int .i64 r4, .int .i64 r5, .int .i64 r6] := Blk.step (by (with_reducible (repeat (first | assumption | exact Blk.new' (by simp) | apply Blk.drewN | apply Blk.drew | apply Blk.alloc | (refine Blk.far ?_ (by (try simp) <;> omega) _))))) hb_5
  have l_5_l1 := k_5_l1.lt
  clear i_4 k_4_p0 c_4_p0_0 c_4_p0_1 c_4_p0_2 c_4_p0_3 c_4_p0_4 c_4_p0_5 c_4_p0_6 c_4_p0_7 c_4_p0_8 c_4_p0_9 c_4_p0_10 c_4_p0_11 c_4_p0_12 c_4_p0_13 l_4_p0 k_4_l1 l_4_l1 hb_4 j_4
  go_wp2_with fail
  obtain ⟨b_l2, hbx_l2⟩ : ∃ b, b = w_5.heap.size := ⟨_, rfl⟩
  rw [← hbx_l2]
  have hb_6 : Below w_5.heap.size w_5 (w_5.alloc (.cells #[.slice (some ⟨g0_5, 0, none⟩) n0x n0x, .int .i64 a0_0, .int .i64 a0_1, .int .i64 a0_2, .int .i64 a0_3, .int .i64 a0_4, .slice (some ⟨g1_5, 0, none⟩) n0y n0y, .int .i64 a0_5, .int .i64 a0_6, .int .i64 a0_7, .int .i64 a0_8, .int .i64 a0_9, .int .i64 a0_10, .int .i64 a0_11] 45)) := (Below.refl _ _).alloc (Nat.le_refl _) _
  have kk_6 : Blk (w_5.alloc (.cells #[.slice (some ⟨g0_5, 0, none⟩) n0x n0x, .int .i64 a0_0, .int .i64 a0_1, .int .i64 a0_2, .int .i64 a0_3, .int .i64 a0_4, .slice (some ⟨g1_5, 0, none⟩) n0y n0y, .int .i64 a0_5, .int .i64 a0_6, .int .i64 a0_7, .int .i64 a0_8, .int .i64 a0_9, .int .i64 a0_10, .int .i64 a0_11] 45)) b_l2 45 #[.slice (some ⟨g0_5, 0, none⟩) n0x n0x, .int .i64 a0_0, .int .i64 a0_1, .int .i64 a0_2, .int .i64 a0_3, .int .i64 a0_4, .slice (some ⟨g1_5, 0, none⟩) n0y n0y, .int .i64 a0_5, .int .i64 a0_6, .int .i64 a0_7, .int .i64 a0_8, .int .i64 a0_9, .int .i64 a0_10, .int .i64 a0_11] := Blk.new' hbx_l2
  clear hbx_l2
  generalize (w_5.alloc (.cells #[.slice (some ⟨g0_5, 0, none⟩) n0x n0x, .int .i64 a0_0, .int .i64 a0_1, .int .i64 a0_2, .int .i64 a0_3, .int .i64 a0_4, .slice (some ⟨g1_5, 0, none⟩) n0y n0y, .int .i64 a0_5, .int .i64 a0_6, .int .i64 a0_7, .int .i64 a0_8, .int .i64 a0_9, .int .i64 a0_10, .int .i64 a0_11] 45)) = w_6 at *
  have j_6 : In w_4.heap.size w_4 w_6 := In.step (by (repeat (first | exact In.refl _ | assumption | apply In.alloc | apply In.drewN | apply In.drew | (refine In.step ?_ (by assumption))))) hb_6
  have k_6_p0 : Blk w_6 (b_p0) 35 #[.slice A0x n0x c0x, .int .i64 a0_0, .int .i64 a0_1, .int .i64 a0_2, .int .i64 a0_3, .int .i64 a0_4, .slice A0y n0y c0y, .int .i64 a0_5, .int .i64 a0_6, .int .i64 a0_7, .int .i64 a0_8, .int .i64 a0_9, .int .i64 a0_10, .int .i64 a0_11] := Blk.step (by (with_reducible (repeat (first | assumption | exact Blk.new' (by simp) | apply Blk.drewN | apply Blk.drew | apply Blk.alloc | (refine Blk.far ?_ (by (try simp) <;> omega) _))))) hb_6
  have l_6_p0 := k_6_p0.lt
  have k_6_l1 : Blk w_6 (b_l1) 45 #[.slice (some ⟨g0_3, 0, none⟩) n0x c0_3, .int .i64 a0_0, .int .i64 a0_1, .int .i64 a0_2, .int .i64 a0_3, .int .i64 a0_4, .slice (some ⟨g1_3, 0, none⟩) zs0.length c1_3, .int .i64 r0, .int .i64 r1, .int .i64 r2, .int .i64 r3, .int .i64 r4, .int .i64 r5, .int .i64 r6] := Blk.step (by (with_reducible (repeat (first | assumption | exact Blk.new' (by simp) | apply Blk.drewN | apply Blk.drew | apply Blk.alloc | (refine Blk.far ?_ (by (try simp) <;> omega) _))))) hb_6
  have l_6_l1 := k_6_l1.lt
  have k_6_l2 : Blk w_6 (b_l2) 45 #[.slice (some ⟨g0_5, 0, none⟩) n0x n0x, .int .i64 a0_0, .int .i64 a0_1, .int .i64 a0_2, .int .i64 a0_3, .int .i64 a0_4, .slice (some ⟨g1_5, 0, none⟩) n0y n0y, .int .i64 a0_5, .int .i64 a0_6, .int .i64 a0_7, .int .i64 a0_8, .int .i64 a0_9, .int .i64 a0_10, .int .i64 a0_11] := kk_6
  obtain ⟨c_6_l2_0, c_6_l2_1, c_6_l2_2, c_6_l2_3, c_6_l2_4, c_6_l2_5, c_6_l2_6, c_6_l2_7, c_6_l2_8, c_6_l2_9, c_6_l2_10, c_6_l2_11, c_6_l2_12, c_6_l2_13⟩ := cells14 k_6_l2
  have l_6_l2 := k_6_l2.lt
  have o_6_X5 : OwnC w_6 g0_5 n0x n0x z0x := OwnC.step (by with_reducible (repeat (first | assumption | apply OwnC.drewN | apply OwnC.drew | apply OwnC.alloc))) hb_6
  have o_6_X6 : OCEvent w_6 g1_5 n0y n0y z0y := OCEvent.step (by with_reducible (repeat (first | assumption | apply OCEvent.drewN | apply OCEvent.drew | apply OCEvent.alloc))) hb_6
  clear j_5 k_5_p0 l_5_p0 k_5_l1 l_5_l1 o_5_X5 o_5_X6 hb_5
  as_aux_lemma =>
   clear kk_6
   go_wp2_with fail
   refine (HiC.out g0_5 n0x g1_5 n0y _ (OwnC.reads (by with_reducible (repeat (first | assumption | apply OwnC.drewN | apply OwnC.drew | apply OwnC.alloc)))) (OCEvent.reads (by with_reducible (repeat (first | assumption | apply OCEvent.drewN | apply OCEvent.drew | apply OCEvent.alloc))))).mono ?_
   rintro _ w_7 ⟨g0_7, c0_7, g1_7, c1_7, rfl, ho0_7, hg0_7, ho1_7, hg1_7, hb_7⟩
   have NE_X5_X7 : Hid (g0_5 ≠ g0_7) := Lib.hid (by have h1 := hg0_7; (try simp at h1); have h2 := OwnC.lt o_6_X5; omega)
   have NE_X6_X7 : Hid (g1_5 ≠ g0_7) := Lib.hid (by have h1 := hg0_7; (try simp at h1); have h2 := OCEvent.lt o_6_X6; omega)
   have GX_X7 : Hid (w_4.heap.size ≤ g0_7) := Lib.hid (by have h1 := hg0_7; (try simp at h1); have h2 := In.size j_6; omega)
   have o_7_X7 : OwnC w_7 g0_7 n0x c0_7 z0x := ho0_7
   clear ho0_7 hg0_7
   have NE_X5_X8 : Hid (g0_5 ≠ g1_7) := Lib.hid (by have h1 := hg1_7; (try simp at h1); have h2 := OwnC.lt o_6_X5; omega)
   have NE_X6_X8 : Hid (g1_5 ≠ g1_7) := Lib.hid (by have h1 := hg1_7; (try simp at h1); have h2 := OCEvent.lt o_6_X6; omega)
   have NE_X7_X8 : Hid (g0_7 ≠ g1_7) := Lib.hid (ne_IE o_7_X7 ho1_7)
   have GX_X8 : Hid (w_4.heap.size ≤ g1_7) := Lib.hid (by have h1 := hg1_7; (try simp at h1); have h2 := In.size j_6; omega)
   have o_7_X8 : OCEvent w_7 g1_7 zs0.length c1_7 zs0 := ho1_7
   clear ho1_7 hg1_7
   have j_7 : In w_4.heap.size w_4 w_7 := In.step (by (repeat (first | exact In.refl _ | assumption | apply In.alloc | apply In.drewN | apply In.drew | (refine In.step ?_ (by assumption))))) hb_7
   have k_7_p0 : Blk w_7 (b_p0) 35 #[.slice A0x n0x c0x, .int .i64 a0_0, .int .i64 a0_1, .int .i64 a0_2, .int .i64 a0_3, .int .i64 a0_4, .slice A0y n0y c0y, .int .i64 a0_5, .int .i64 a0_6, .int .i64 a0_7, .int .i64 a0_8, .int .i64 a0_9, .int .i64 a0_10, .int .i64 a0_11] := Blk.step (by (with_reducible (repeat (first | assumption | exact Blk.new' (by simp) | apply Blk.drewN | apply Blk.drew | apply Blk.alloc | (refine Blk.far ?_ (by (try simp) <;> omega) _))))) hb_7
   have l_7_p0 := k_7_p0.lt
   have k_7_l1 : Blk w_7 (b_l1) 45 #[.slice (some ⟨g0_3, 0, none⟩) n0x c0_3, .int .i64 a0_0, .int .i64 a0_1, .int .i64 a0_2, .int .i64 a0_3, .int .i64 a0_4, .slice (some ⟨g1_3, 0, none⟩) zs0.length c1_3, .int .i64 r0, .int .i64 r1, .int .i64 r2, .int .i64 r3, .int .i64 r4, .int .i64 r5, .int .i64 r6] := Blk.step (by (with_reducible (repeat (first | assumption | exact Blk.new' (by simp) | apply Blk.drewN | apply Blk.drew | apply Blk.alloc | (refine Blk.far ?_ (by (try simp) <;> omega) _))))) hb_7
   obtain ⟨c_7_l1_0, c_7_l1_1, c_7_l1_2, c_7_l1_3, c_7_l1_4, c_7_l1_5, c_7_l1_6, c_7_l1_7, c_7_l1_8, c_7_l1_9, c_7_l1_10, c_7_l1_11, c_7_l1_12, c_7_l1_13⟩ := cells14 k_7_l1
   have l_7_l1 := k_7_l1.lt
   have k_7_l2 : Blk w_7 (b_l2) 45 #[.slice (some ⟨g0_5, 0, none⟩) n0x n0x, .int .i64 a0_0, .int .i64 a0_1, .int .i64 a0_2, .int .i64 a0_3, .int .i64 a0_4, .slice (some ⟨g1_5, 0, none⟩) n0y n0y, .int .i64 a0_5, .int .i64 a0_6, .int .i64 a0_7, .int .i64 a0_8, .int .i64 a0_9, .int .i64 a0_10, .int .i64 a0_11] := Blk.step (by (with_reducible (repeat (first | assumption | exact Blk.new' (by simp) | apply Blk.drewN | apply Blk.drew | apply Blk.alloc | (refine Blk.far ?_ (by (try simp) <;> omega) _))))) hb_7
   have l_7_l2 := k_7_l2.lt
   have o_7_X5 : OwnC w_7 g0_5 n0x n0x z0x := OwnC.step (by with_reducible (repeat (first | assumption | apply OwnC.drewN | apply OwnC.drew | apply OwnC.alloc))) hb_7
   have o_7_X6 : OCEvent w_7 g1_5 n0y n0y z0y := OCEvent.step (by with_reducible (repeat (first | assumption | apply OCEvent.drewN | apply OCEvent.drew | apply OCEvent.alloc))) hb_7
   clear j_6 k_6_p0 l_6_p0 k_6_l1 l_6_l1 k_6_l2 c_6_l2_0 c_6_l2_1 c_6_l2_2 c_6_l2_3 c_6_l2_4 c_6_l2_5 c_6_l2_6 c_6_l2_7 c_6_l2_8 c_6_l2_9 c_6_l2_10 c_6_l2_11 c_6_l2_12 c_6_l2_13 l_6_l2 o_6_X5 o_6_X6 hb_6
   go_wp2_with fail
   obtain ⟨b_l3, hbx_l3⟩ : ∃ b, b = w_7.heap.size := ⟨_, rfl⟩
   rw [← hbx_l3]
   have hb_8 : Below w_7.heap.size w_7 (w_7.alloc (.cells #[.slice (some ⟨g0_7, 0, none⟩) n0x c0_7, .int .i64 a0_0, .int .i64 a0_1, .int .i64 a0_2, .int .i64 a0_3, .int .i64 a0_4, .slice (some ⟨g1_7, 0, none⟩) zs0.length c1_7, .int .i64 r0, .int .i64 r1, .int .i64 r2, .int .i64 r3, .int .i64 r4, .int .i64 r5, .int .i64 r6] 45)) := (Below.refl _ _).alloc (Nat.le_refl _) _
   have kk_8 : Blk (w_7.alloc (.cells #[.slice (some ⟨g0_7, 0, none⟩) n0x c0_7, .int .i64 a0_0, .int .i64 a0_1, .int .i64 a0_2, .int .i64 a0_3, .int .i64 a0_4, .slice (some ⟨g1_7, 0, none⟩) zs0.length c1_7, .int .i64 r0, .int .i64 r1, .int .i64 r2, .int .i64 r3, .int .i64 r4, .int .i64 r5, .int .i64 r6] 45)) b_l3 45 #[.slice (some ⟨g0_7, 0, none⟩) n0x c0_7, .int .i64 a0_0, .int .i64 a0_1, .int .i64 a0_2, .int .i64 a0_3, .int .i64 a0_4, .slice (some ⟨g1_7, 0, none⟩) zs0.length c1_7, .int .i64 r0, .int .i64 r1, .int .i64 r2, .int .i64 r3, .int .i64 r4, .int .i64 r5, .int .i64 r6] := Blk.new' hbx_l3
   clear hbx_l3
   generalize (w_7.alloc (.cells #[.slice (some ⟨g0_7, 0, none⟩) n0x c0_7, .int .i64 a0_0, .int .i64 a0_1, .int .i64 a0_2, .int .i64 a0_3, .int .i64 a0_4, .slice (some ⟨g1_7, 0, none⟩) zs0.length c1_7, .int .i64 r0, .int .i64 r1, .int .i64 r2, .int .i64 r3, .int .i64 r4, .int .i64 r5, .int .i64 r6] 45)) = w_8 at *
   have j_8 : In w_4.heap.size w_4 w_8 := In.step (by (repeat (first | exact In.refl _ | assumption | apply In.alloc | apply In.drewN | apply In.drew | (refine In.step ?_ (by assumption))))) hb_8
   have k_8_p0 : Blk w_8 (b_p0) 35 #[.slice A0x n0x c0x, .int .i64 a0_0, .int .i64 a0_1, .int .i64 a0_2, .int .i64 a0_3, .int .i64 a0_4, .slice A0y n0y c0y, .int .i64 a0_5, .int .i64 a0_6, .int .i64 a0_7, .int .i64 a0_8, .int .i64 a0_9, .int .i64 a0_10, .int .i64 a0_11] := Blk.step (by (with_reducible (repeat (first | assumption | exact Blk.new' (by simp) | apply Blk.drewN | apply Blk.drew | apply Blk.alloc | (refine Blk.far ?_ (by (try simp) <;> omega) _))))) hb_8
   have l_8_p0 := k_8_p0.lt
   have k_8_l1 : Blk w_8 (b_l1) 45 #[.slice (some ⟨g0_3, 0, none⟩) n0x c0_3, .int .i64 a0_0, .int .i64 a0_1, .int .i64 a0_2, .int .i64 a0_3, .int .i64 a0_4, .slice (some ⟨g1_3, 0, none⟩) zs0.length c1_3, .int .i64 r0, .int .i64 r1, .int .i64 r2, .int .i64 r3, .int .i64 r4, .int .i64 r5, .int .i64 r6] := Blk.step (by (with_reducible (repeat (first | assumption | exact Blk.new' (by simp) | apply Blk.drewN | apply Blk.drew | apply Blk.alloc | (refine Blk.far ?_ (by (try simp) <;> omega) _))))) hb_8
   obtain ⟨c_8_l1_0, c_8_l1_1, c_8_l1_2, c_8_l1_3, c_8_l1_4, c_8_l1_5, c_8_l1_6, c_8_l1_7, c_8_l1_8, c_8_l1_9, c_8_l1_10, c_8_l1_11, c_8_l1_12, c_8_l1_13⟩ := cells14 k_8_l1
   have l_8_l1 := k_8_l1.lt
   have k_8_l2 : Blk w_8 (b_l2) 45 #[.slice (some ⟨g0_5, 0, none⟩) n0x n0x, .int .i64 a0_0, .int .i64 a0_1, .int .i64 a0_2, .int .i64 a0_3, .int .i64 a0_4, .slice (some ⟨g1_5, 0, none⟩) n0y n0y, .int .i64 a0_5, .int .i64 a0_6, .int .i64 a0_7, .int .i64 a0_8, .int .i64 a0_9, .int .i64 a0_10, .int .i64 a0_11] := Blk.step (by (with_reducible (repeat (first | assumption | exact Blk.new' (by simp) | apply Blk.drewN | apply Blk.drew | apply Blk.alloc | (refine Blk.far ?_ (by (try simp) <;> omega) _))))) hb_8
   have l_8_l2 := k_8_l2.lt
   have k_8_l3 : Blk w_8 (b_l3) 45 #[.slice (some ⟨g0_7, 0, none⟩) n0x c0_7, .int .i64 a0_0, .int .i64 a0_1, .int .i64 a0_2, .int .i64 a0_3, .int .i64 a0_4, .slice (some ⟨g1_7, 0, none⟩) zs0.length c1_7, .int .i64 r0, .int .i64 r1, .int .i64 r2, .int .i64 r3, .int .i64 r4, .int .i64 r5, .int .i64 r6] := kk_8
   obtain ⟨c_8_l3_0, c_8_l3_1, c_8_l3_2, c_8_l3_3, c_8_l3_4, c_8_l3_5, c_8_l3_6, c_8_l3_7, c_8_l3_8, c_8_l3_9, c_8_l3_10, c_8_l3_11, c_8_l3_12, c_8_l3_13⟩ := cells14 k_8_l3
   have l_8_l3 := k_8_l3.lt
   have o_8_X5 : OwnC w_8 g0_5 n0x n0x z0x := OwnC.step (by with_reducible (repeat (first | assumption | apply OwnC.drewN | apply OwnC.drew | apply OwnC.alloc))) hb_8
   have o_8_X6 : OCEvent w_8 g1_5 n0y n0y z0y := OCEvent.step (by with_reducible (repeat (first | assumption | apply OCEvent.drewN | apply OCEvent.drew | apply OCEvent.alloc))) hb_8
   have o_8_X7 : OwnC w_8 g0_7 n0x c0_7 z0x := OwnC.step (by with_reducible (repeat (first | assumption | apply OwnC.drewN | apply OwnC.drew | apply OwnC.alloc))) hb_8
   have o_8_X8 : OCEvent w_8 g1_7 zs0.length c1_7 zs0 := OCEvent.step (by with_reducible (repeat (first | assumption | apply OCEvent.drewN | apply OCEvent.drew | apply OCEvent.alloc))) hb_8
   clear j_7 k_7_p0 l_7_p0 k_7_l1 c_7_l1_0 c_7_l1_1 c_7_l1_2 c_7_l1_3 c_7_l1_4 c_7_l1_5 c_7_l1_6 c_7_l1_7 c_7_l1_8 c_7_l1_9 c_7_l1_10 c_7_l1_11 c_7_l1_12 c_7_l1_13 l_7_l1 k_7_l2 l_7_l2 o_7_X5 o_7_X6 o_7_X7 o_7_X8 hb_7
   clear kk_8
   go_wp2_with fail
   refine (eqBakery_w (some ⟨g0_7, 0, none⟩) (some ⟨g0_3, 0, none⟩) n0x c0_7 c0_3 z0x (some ⟨g1_7, 0, none⟩) (some ⟨g1_3, 0, none⟩) zs0.length c1_7 c1_3 zs0 a0_0 a0_1 a0_2 a0_3 a0_4 r0 r1 r2 r3 r4 r5 r6 _ (by first | omega | (unfold maxLen; omega)) (by first | omega | (unfold maxLen; omega)) (OwnC.reads (by with_reducible (repeat (first | assumption | apply OwnC.drewN | apply OwnC.drew | apply OwnC.alloc)))) (HW0.out.in_ (by (repeat (first | exact In.refl _ | assumption | apply In.alloc | apply In.drewN | apply In.drew | (refine In.step ?_ (by assumption)))))) (OCEvent.reads (by with_reducible (repeat (first | assumption | apply OCEvent.drewN | apply OCEvent.drew | apply OCEvent.alloc)))) (HW1.out.in_ (by (repeat (first | exact In.refl _ | assumption | apply In.alloc | apply In.drewN | apply In.drew | (refine In.step ?_ (by assumption))))))).mono ?_
   rintro _ w_9 ⟨rfl, hb_9⟩
   have j_9 : In w_4.heap.size w_4 w_9 := In.step (by (repeat (first | exact In.refl _ | assumption | apply In.alloc | apply In.drewN | apply In.drew | (refine In.step ?_ (by assumption))))) hb_9
   have k_9_p0 : Blk w_9 (b_p0) 35 #[.slice A0x n0x c0x, .int .i64 a0_0, .int .i64 a0_1, .int .i64 a0_2, .int .i64 a0_3, .int .i64 a0_4, .slice A0y n0y c0y, .int .i64 a0_5, .int .i64 a0_6, .int .i64 a0_7, .int .i64 a0_8, .int .i64 a0_9, .int .i64 a0_10, .int .i64 a0_11] := Blk.step (by (with_reducible (repeat (first | assumption | exact Blk.new' (by simp) | apply Blk.drewN | apply Blk.drew | apply Blk.alloc | (refine Blk.far ?_ (by (try simp) <;> omega) _))))) hb_9
   obtain ⟨c_9_p0_0, c_9_p0_1, c_9_p0_2, c_9_p0_3, c_9_p0_4, c_9_p0_5, c_9_p0_6, c_9_p0_7, c_9_p0_8, c_9_p0_9, c_9_p0_10, c_9_p0_11, c_9_p0_12, c_9_p0_13⟩ := cells14 k_9_p0
   have l_9_p0 := k_9_p0.lt
   have k_9_l1 : Blk w_9 (b_l1) 45 #[.slice (some ⟨g0_3, 0, none⟩) n0x c0_3, .int .i64 a0_0, .int .i64 a0_1, .int .i64 a0_2, .int .i64 a0_3, .int .i64 a0_4, .slice (some ⟨g1_3, 0, none⟩) zs0.length c1_3, .int .i64 r0, .int .i64 r1, .int .i64 r2, .int .i64 r3, .int .i64 r4, .int .i64 r5, .int .i64 r6] := Blk.step (by (with_reducible (repeat (first | assumption | exact Blk.new' (by simp) | apply Blk.drewN | apply Blk.drew | apply Blk.alloc | (refine Blk.far ?_ (by (try simp) <;> omega) _))))) hb_9
   have l_9_l1 := k_9_l1.lt
   have k_9_l2 : Blk w_9 (b_l2) 45 #[.slice (some ⟨g0_5, 0, none⟩) n0x n0x, .int .i64 a0_0, .int .i64 a0_1, .int .i64 a0_2, .int .i64 a0_3, .int .i64 a0_4, .slice (some ⟨g1_5, 0, none⟩) n0y n0y, .int .i64 a0_5, .int .i64 a0_6, .int .i64 a0_7, .int .i64 a0_8, .int .i64 a0_9, .int .i64 a0_10, .int .i64 a0_11] := Blk.step (by (with_reducible (repeat (first | assumption | exact Blk.new' (by simp) | apply Blk.drewN | apply Blk.drew | apply Blk.alloc | (refine Blk.far ?_ (by (try simp) <;> omega) _))))) hb_9
   obtain ⟨c_9_l2_0, c_9_l2_1, c_9_l2_2, c_9_l2_3, c_9_l2_4, c_9_l2_5, c_9_l2_6, c_9_l2_7, c_9_l2_8, c_9_l2_9, c_9_l2_10, c_9_l2_11, c_9_l2_12, c_9_l2_13⟩ := cells14 k_9_l2
   have l_9_l2 := k_9_l2.lt
   have k_9_l3 : Blk w_9 (b_l3) 45 #[.slice (some ⟨g0_7, 0, none⟩) n0x c0_7, .int .i64 a0_0, .int .i64 a0_1, .int .i64 a0_2, .int .i64 a0_3, .int .i64 a0_4, .slice (some ⟨g1_7, 0, none⟩) zs0.length c1_7, .int .i64 r0, .int .i64 r1, .int .i64 r2, .int .i64 r3, .int .i64 r4, .int .i64 r5, .int .i64 r6] := Blk.step (by (with_reducible (repeat (first | assumption | exact Blk.new' (by simp) | apply Blk.drewN | apply Blk.drew | apply Blk.alloc | (refine Blk.far ?_ (by (try simp) <;> omega) _))))) hb_9
   have l_9_l3 := k_9_l3.lt
   have o_9_X5 : OwnC w_9 g0_5 n0x n0x z0x := OwnC.step (by with_reducible (repeat (first | assumption | apply OwnC.drewN | apply OwnC.drew | apply OwnC.alloc))) hb_9
   have o_9_X6 : OCEvent w_9 g1_5 n0y n0y z0y := OCEvent.step (by with_reducible (repeat (first | assumption | apply OCEvent.drewN | apply OCEvent.drew | apply OCEvent.alloc))) hb_9
   have o_9_X7 : OwnC w_9 g0_7 n0x c0_7 z0x := OwnC.step (by with_reducible (repeat (first | assumption | apply OwnC.drewN | apply OwnC.drew | apply OwnC.alloc))) hb_9
   have o_9_X8 : OCEvent w_9 g1_7 zs0.length c1_7 zs0 := OCEvent.step (by with_reducible (repeat (first | assumption | apply OCEvent.drewN | apply OCEvent.drew | apply OCEvent.alloc))) hb_9
   clear j_8 k_8_p0 l_8_p0 k_8_l1 c_8_l1_0 c_8_l1_1 c_8_l1_2 c_8_l1_3 c_8_l1_4 c_8_l1_5 c_8_l1_6 c_8_l1_7 c_8_l1_8 c_8_l1_9 c_8_l1_10 c_8_l1_11 c_8_l1_12 c_8_l1_13 l_8_l1 k_8_l2 l_8_l2 k_8_l3 c_8_l3_0 c_8_l3_1 c_8_l3_2 c_8_l3_3 c_8_l3_4 c_8_l3_5 c_8_l3_6 c_8_l3_7 c_8_l3_8 c_8_l3_9 c_8_l3_10 c_8_l3_11 c_8_l3_12 c_8_l3_13 l_8_l3 o_8_X5 o_8_X6 o_8_X7 o_8_X8 hb_8
   as_aux_lemma =>
    go_wp2_with fail
    have hBw_9 : w_9.heap.size ≤ w_9.heap.size := Nat.le_refl _
    obtain ⟨B_9, hB_9⟩ : ∃ B, B = w_9.heap.size := ⟨_, rfl⟩
    have hBl_9 : B_9 ≤ w_9.heap.size := by omega
    have hBg_9 : w_9.heap.size ≤ B_9 := by omega
    clear hBw_9 hB_9
    refine wp_region_facts2 (JINightOvera w_9 zs0 r0 r1 r2 r3 r4 r5 r6 f0v A0x n0x c0x z0x a0_0 a0_1 a0_2 a0_3 a0_4 A0y n0y c0y z0y a0_5 a0_6 a0_7 a0_8 a0_9 a0_10 a0_11 b_p0 g0_2 g1_2 c0_3 g0_3 c1_3 g1_3 b_l1 g0_5 g1_5 b_l2 c0_7 g0_7 c1_7 g1_7 b_l3) (JFNightOvera B_9 zs0 r0 r1 r2 r3 r4 r5 r6 f0v A0x n0x c0x z0x a0_0 a0_1 a0_2 a0_3 a0_4 A0y n0y c0y z0y a0_5 a0_6 a0_7 a0_8 a0_9 a0_10 a0_11 b_p0 g0_2 g1_2 c0_3 g0_3 c1_3 g1_3 b_l1 g0_5 g1_5 b_l2 c0_7 g0_7 c1_7 g1_7 b_l3) (fun j => j == 4) (fun k j => (k == 2 && (j == 1)) || (k == 3 && (j == 0 || j == 2)) || (k == 4 && (j == 3))) (by kernel_rfl) (by kernel_rfl) ⟨⟨fun _ => undef, rfl⟩, (In.refl _).drew⟩ ?_ ?_
    · intro a v1 i o ho hI haf
      obtain ⟨⟨f, rfl⟩, hin⟩ := hI
      have kv_p0 : Blk v1 (b_p0) 35 #[.slice A0x n0x c0x, .int .i64 a0_0, .int .i64 a0_1, .int .i64 a0_2, .int .i64 a0_3, .int .i64 a0_4, .slice A0y n0y c0y, .int .i64 a0_5, .int .i64 a0_6, .int .i64 a0_7, .int .i64 a0_8, .int .i64 a0_9, .int .i64 a0_10, .int .i64 a0_11] := Blk.step k_9_p0 hin.below
      have cv_p0_0 := kv_p0.cell 0
      have cv_p0_1 := kv_p0.cell 1
      have cv_p0_2 := kv_p0.cell 2
      have cv_p0_3 := kv_p0.cell 3
      have cv_p0_4 := kv_p0.cell 4
      have cv_p0_5 := kv_p0.cell 5
      have cv_p0_6 := kv_p0.cell 6
      have cv_p0_7 := kv_p0.cell 7
      have cv_p0_8 := kv_p0.cell 8
      have cv_p0_9 := kv_p0.cell 9
      have cv_p0_10 := kv_p0.cell 10
      have cv_p0_11 := kv_p0.cell 11
      have cv_p0_12 := kv_p0.cell 12
      have cv_p0_13 := kv_p0.cell 13
      have kv_l2 : Blk v1 (b_l2) 45 #[.slice (some ⟨g0_5, 0, none⟩) n0x n0x, .int .i64 a0_0, .int .i64 a0_1, .int .i64 a0_2, .int .i64 a0_3, .int .i64 a0_4, .slice (some ⟨g1_5, 0, none⟩) n0y n0y, .int .i64 a0_5, .int .i64 a0_6, .int .i64 a0_7, .int .i64 a0_8, .int .i64 a0_9, .int .i64 a0_10, .int .i64 a0_11] := Blk.step k_9_l2 hin.below
      have cv_l2_0 := kv_l2.cell 0
      have cv_l2_1 := kv_l2.cell 1
      have cv_l2_2 := kv_l2.cell 2
      have cv_l2_3 := kv_l2.cell 3
      have cv_l2_4 := kv_l2.cell 4
      have cv_l2_5 := kv_l2.cell 5
      have cv_l2_6 := kv_l2.cell 6
      have cv_l2_7 := kv_l2.cell 7
      have cv_l2_8 := kv_l2.cell 8
      have cv_l2_9 := kv_l2.cell 9
      have cv_l2_10 := kv_l2.cell 10
      have cv_l2_11 := kv_l2.cell 11
      have cv_l2_12 := kv_l2.cell 12
      have cv_l2_13 := kv_l2.cell 13
      have ov_X5 : OwnC v1 g0_5 n0x n0x z0x := OwnC.step o_9_X5 hin.below
      have ov_X6 : OCEvent v1 g1_5 n0y n0y z0y := OCEvent.step o_9_X6 hin.below
      have ov_X7 : OwnC v1 g0_7 n0x c0_7 z0x := OwnC.step o_9_X7 hin.below
      have ov_X8 : OCEvent v1 g1_7 zs0.length c1_7 zs0 := OCEvent.step o_9_X8 hin.below
      have hi : i < 5 := by
        rcases Nat.lt_or_ge i 5 with h | h
        · exact h
        · simp [h] at ho
      suffices H : ∀ K : Act → World → Prop, (∀ a' w', ((JINightOvera w_9 zs0 r0 r1 r2 r3 r4 r5 r6 f0v A0x n0x c0x z0x a0_0 a0_1 a0_2 a0_3 a0_4 A0y n0y c0y z0y a0_5 a0_6 a0_7 a0_8 a0_9 a0_10 a0_11 b_p0 g0_2 g1_2 c0_3 g0_3 c1_3 g1_3 b_l1 g0_5 g1_5 b_l2 c0_7 g0_7 c1_7 g1_7 b_l3) a' w' ∧ (JFNightOvera B_9 zs0 r0 r1 r2 r3 r4 r5 r6 f0v A0x n0x c0x z0x a0_0 a0_1 a0_2 a0_3 a0_4 A0y n0y c0y z0y a0_5 a0_6 a0_7 a0_8 a0_9 a0_10 a0_11 b_p0 g0_2 g1_2 c0_3 g0_3 c1_3 g1_3 b_l1 g0_5 g1_5 b_l2 c0_7 g0_7 c1_7 g1_7 b_l3) i a' w' ∧ ∀ j, j ≠ i → waitsT _ 6 j i = false → ((fun j => j == 4) j || usesB _ (fun k j => (k == 2 && (j == 1)) || (k == 3 && (j == 0 || j == 2)) || (k == 4 && (j == 3))) i j) = true → (JFNightOvera B_9 zs0 r0 r1 r2 r3 r4 r5 r6 f0v A0x n0x c0x z0x a0_0 a0_1 a0_2 a0_3 a0_4 A0y n0y c0y z0y a0_5 a0_6 a0_7 a0_8 a0_9 a0_10 a0_11 b_p0 g0_2 g1_2 c0_3 g0_3 c1_3 g1_3 b_l1 g0_5 g1_5 b_l2 c0_7 g0_7 c1_7 g1_7 b_l3) j ⟨#[Value.agg #[Value.slice A0x n0x c0x, Value.int IntKind.i64 a0_0, Value.int IntKind.i64 a0_1, Value.int IntKind.i64 a0_2, Value.int IntKind.i64 a0_3, Value.int IntKind.i64 a0_4, Value.slice A0y n0y c0y, Value.int IntKind.i64 a0_5, Value.int IntKind.i64 a0_6, Value.int IntKind.i64 a0_7, Value.int IntKind.i64 a0_8, Value.int IntKind.i64 a0_9, Value.int IntKind.i64 a0_10, Value.int IntKind.i64 a0_11], Value.pointer (some { block := b_p0, off := 0 }), Value.bool false, Value.int IntKind.i64 (1048576 - ((n0x : Nat) : Int) - ((n0y : Nat) : Int)), Value.pointer (some { block := b_l1, off := 0 }), Value.bool f0v, Value.pointer (some { block := b_l2, off := 0 }), Value.pointer (some { block := b_l3, off := 0 }), Value.bool f0v, undef, undef, undef, undef, undef, Value.agg #[Value.slice A0x n0x c0x, Value.int IntKind.i64 a0_0, Value.int IntKind.i64 a0_1, Value.int IntKind.i64 a0_2, Value.int IntKind.i64 a0_3, Value.int IntKind.i64 a0_4, Value.slice A0y n0y c0y, Value.int IntKind.i64 a0_5, Value.int IntKind.i64 a0_6, Value.int IntKind.i64 a0_7, Value.int IntKind.i64 a0_8, Value.int IntKind.i64 a0_9, Value.int IntKind.i64 a0_10, Value.int IntKind.i64 a0_11], Value.int IntKind.i64 1048576, Value.int IntKind.i64 (1048576 - ((n0x : Nat) : Int) - ((n0y : Nat) : Int)), Value.int IntKind.i64 (1048576 - ((n0x : Nat) : Int) - ((n0y : Nat) : Int)), Value.bool (decide (1048576 - ((n0x : Nat) : Int) - ((n0y : Nat) : Int) < 0)), Value.tuple #[Value.agg #[Value.slice (some { block := g0_3, off := 0 }) n0x c0_3, Value.int IntKind.i64 a0_0, Value.int IntKind.i64 a0_1, Value.int IntKind.i64 a0_2, Value.int IntKind.i64 a0_3, Value.int IntKind.i64 a0_4, Value.slice (some { block := g1_3, off := 0 }) zs0.length c1_3, Value.int IntKind.i64 r0, Value.int IntKind.i64 r1, Value.int IntKind.i64 r2, Value.int IntKind.i64 r3, Value.int IntKind.i64 r4, Value.int IntKind.i64 r5, Value.int IntKind.i64 r6], Value.bool f0v], Value.agg #[Value.slice A0x n0x c0x, Value.int IntKind.i64 a0_0, Value.int IntKind.i64 a0_1, Value.int IntKind.i64 a0_2, Value.int IntKind.i64 a0_3, Value.int IntKind.i64 a0_4, Value.slice A0y n0y c0y, Value.int IntKind.i64 a0_5, Value.int IntKind.i64 a0_6, Value.int IntKind.i64 a0_7, Value.int IntKind.i64 a0_8, Value.int IntKind.i64 a0_9, Value.int IntKind.i64 a0_10, Value.int IntKind.i64 a0_11], Value.agg #[Value.slice (some { block := g0_2, off := 0 }) n0x n0x, Value.int IntKind.i64 a0_0, Value.int IntKind.i64 a0_1, Value.int IntKind.i64 a0_2, Value.int IntKind.i64 a0_3, Value.int IntKind.i64 a0_4, Value.slice (some { block := g1_2, off := 0 }) n0y n0y, Value.int IntKind.i64 a0_5, Value.int IntKind.i64 a0_6, Value.int IntKind.i64 a0_7, Value.int IntKind.i64 a0_8, Value.int IntKind.i64 a0_9, Value.int IntKind.i64 a0_10, Value.int IntKind.i64 a0_11], Value.tuple #[Value.agg #[Value.slice (some { block := g0_3, off := 0 }) n0x c0_3, Value.int IntKind.i64 a0_0, Value.int IntKind.i64 a0_1, Value.int IntKind.i64 a0_2, Value.int IntKind.i64 a0_3, Value.int IntKind.i64 a0_4, Value.slice (some { block := g1_3, off := 0 }) zs0.length c1_3, Value.int IntKind.i64 r0, Value.int IntKind.i64 r1, Value.int IntKind.i64 r2, Value.int IntKind.i64 r3, Value.int IntKind.i64 r4, Value.int IntKind.i64 r5, Value.int IntKind.i64 r6], Value.bool f0v], Value.agg #[Value.slice (some { block := g0_3, off := 0 }) n0x c0_3, Value.int IntKind.i64 a0_0, Value.int IntKind.i64 a0_1, Value.int IntKind.i64 a0_2, Value.int IntKind.i64 a0_3, Value.int IntKind.i64 a0_4, Value.slice (some { block := g1_3, off := 0 }) zs0.length c1_3, Value.int IntKind.i64 r0, Value.int IntKind.i64 r1, Value.int IntKind.i64 r2, Value.int IntKind.i64 r3, Value.int IntKind.i64 r4, Value.int IntKind.i64 r5, Value.int IntKind.i64 r6], Value.bool f0v, Value.agg #[Value.slice A0x n0x c0x, Value.int IntKind.i64 a0_0, Value.int IntKind.i64 a0_1, Value.int IntKind.i64 a0_2, Value.int IntKind.i64 a0_3, Value.int IntKind.i64 a0_4, Value.slice A0y n0y c0y, Value.int IntKind.i64 a0_5, Value.int IntKind.i64 a0_6, Value.int IntKind.i64 a0_7, Value.int IntKind.i64 a0_8, Value.int IntKind.i64 a0_9, Value.int IntKind.i64 a0_10, Value.int IntKind.i64 a0_11], Value.agg #[Value.slice (some { block := g0_5, off := 0 }) n0x n0x, Value.int IntKind.i64 a0_0, Value.int IntKind.i64 a0_1, Value.int IntKind.i64 a0_2, Value.int IntKind.i64 a0_3, Value.int IntKind.i64 a0_4, Value.slice (some { block := g1_5, off := 0 }) n0y n0y, Value.int IntKind.i64 a0_5, Value.int IntKind.i64 a0_6, Value.int IntKind.i64 a0_7, Value.int IntKind.i64 a0_8, Value.int IntKind.i64 a0_9, Value.int IntKind.i64 a0_10, Value.int IntKind.i64 a0_11], Value.tuple #[Value.agg #[Value.slice (some { block := g0_7, off := 0 }) n0x c0_7, Value.int IntKind.i64 a0_0, Value.int IntKind.i64 a0_1, Value.int IntKind.i64 a0_2, Value.int IntKind.i64 a0_3, Value.int IntKind.i64 a0_4, Value.slice (some { block := g1_7, off := 0 }) zs0.length c1_7, Value.int IntKind.i64 r0, Value.int IntKind.i64 r1, Value.int IntKind.i64 r2, Value.int IntKind.i64 r3, Value.int IntKind.i64 r4, Value.int IntKind.i64 r5, Value.int IntKind.i64 r6], Value.bool f0v], Value.agg #[Value.slice (some { block := g0_5, off := 0 }) n0x n0x, Value.int IntKind.i64 a0_0, Value.int IntKind.i64 a0_1, Value.int IntKind.i64 a0_2, Value.int IntKind.i64 a0_3, Value.int IntKind.i64 a0_4, Value.slice (some { block := g1_5, off := 0 }) n0y n0y, Value.int IntKind.i64 a0_5, Value.int IntKind.i64 a0_6, Value.int IntKind.i64 a0_7, Value.int IntKind.i64 a0_8, Value.int IntKind.i64 a0_9, Value.int IntKind.i64 a0_10, Value.int IntKind.i64 a0_11], Value.tuple #[Value.agg #[Value.slice (some { block := g0_7, off := 0 }) n0x c0_7, Value.int IntKind.i64 a0_0, Value.int IntKind.i64 a0_1, Value.int IntKind.i64 a0_2, Value.int IntKind.i64 a0_3, Value.int IntKind.i64 a0_4, Value.slice (some { block := g1_7, off := 0 }) zs0.length c1_7, Value.int IntKind.i64 r0, Value.int IntKind.i64 r1, Value.int IntKind.i64 r2, Value.int IntKind.i64 r3, Value.int IntKind.i64 r4, Value.int IntKind.i64 r5, Value.int IntKind.i64 r6], Value.bool f0v], Value.agg #[Value.slice (some { block := g0_7, off := 0 }) n0x c0_7, Value.int IntKind.i64 a0_0, Value.int IntKind.i64 a0_1, Value.int IntKind.i64 a0_2, Value.int IntKind.i64 a0_3, Value.int IntKind.i64 a0_4, Value.slice (some { block := g1_7, off := 0 }) zs0.length c1_7, Value.int IntKind.i64 r0, Value.int IntKind.i64 r1, Value.int IntKind.i64 r2, Value.int IntKind.i64 r3, Value.int IntKind.i64 r4, Value.int IntKind.i64 r5, Value.int IntKind.i64 r6], Value.bool f0v, Value.agg #[Value.slice (some { block := g0_7, off := 0 }) n0x c0_7, Value.int IntKind.i64 a0_0, Value.int IntKind.i64 a0_1, Value.int IntKind.i64 a0_2, Value.int IntKind.i64 a0_3, Value.int IntKind.i64 a0_4, Value.slice (some { block := g1_7, off := 0 }) zs0.length c1_7, Value.int IntKind.i64 r0, Value.int IntKind.i64 r1, Value.int IntKind.i64 r2, Value.int IntKind.i64 r3, Value.int IntKind.i64 r4, Value.int IntKind.i64 r5, Value.int IntKind.i64 r6], Value.agg #[Value.slice (some { block := g0_3, off := 0 }) n0x c0_3, Value.int IntKind.i64 a0_0, Value.int IntKind.i64 a0_1, Value.int IntKind.i64 a0_2, Value.int IntKind.i64 a0_3, Value.int IntKind.i64 a0_4, Value.slice (some { block := g1_3, off := 0 }) zs0.length c1_3, Value.int IntKind.i64 r0, Value.int IntKind.i64 r1, Value.int IntKind.i64 r2, Value.int IntKind.i64 r3, Value.int IntKind.i64 r4, Value.int IntKind.i64 r5, Value.int IntKind.i64 r6], Value.bool true, Value.bool false, Value.bool false, Value.bool f0v, Value.bool f0v, Value.bool false, Value.bool false, f 41, f 42, f 43, f 44, f 45, undef, undef, undef, undef, undef, undef, undef, undef, undef, undef, undef, undef, undef, undef, undef, undef, undef, undef, undef, undef, undef, undef, undef, undef, undef, undef, undef, undef, undef, undef, undef, undef, undef, undef, undef, undef, undef, undef, undef, undef, undef, undef, undef, undef, undef, undef, undef, undef, undef, undef], []⟩ v1 → (JFNightOvera B_9 zs0 r0 r1 r2 r3 r4 r5 r6 f0v A0x n0x c0x z0x a0_0 a0_1 a0_2 a0_3 a0_4 A0y n0y c0y z0y a0_5 a0_6 a0_7 a0_8 a0_9 a0_10 a0_11 b_p0 g0_2 g1_2 c0_3 g0_3 c1_3 g1_3 b_l1 g0_5 g1_5 b_l2 c0_7 g0_7 c1_7 g1_7 b_l3) j a' w') → K a' w') → wpOp _ _ _ i K ⟨#[Value.agg #[Value.slice A0x n0x c0x, Value.int IntKind.i64 a0_0, Value.int IntKind.i64 a0_1, Value.int IntKind.i64 a0_2, Value.int IntKind.i64 a0_3, Value.int IntKind.i64 a0_4, Value.slice A0y n0y c0y, Value.int IntKind.i64 a0_5, Value.int IntKind.i64 a0_6, Value.int IntKind.i64 a0_7, Value.int IntKind.i64 a0_8, Value.int IntKind.i64 a0_9, Value.int IntKind.i64 a0_10, Value.int IntKind.i64 a0_11], Value.pointer (some { block := b_p0, off := 0 }), Value.bool false, Value.int IntKind.i64 (1048576 - ((n0x : Nat) : Int) - ((n0y : Nat) : Int)), Value.pointer (some { block := b_l1, off := 0 }), Value.bool f0v, Value.pointer (some { block := b_l2, off := 0 }), Value.pointer (some { block := b_l3, off := 0 }), Value.bool f0v, undef, undef, undef, undef, undef, Value.agg #[Value.slice A0x n0x c0x, Value.int IntKind.i64 a0_0, Value.int IntKind.i64 a0_1, Value.int IntKind.i64 a0_2, Value.int IntKind.i64 a0_3, Value.int IntKind.i64 a0_4, Value.slice A0y n0y c0y, Value.int IntKind.i64 a0_5, Value.int IntKind.i64 a0_6, Value.int IntKind.i64 a0_7, Value.int IntKind.i64 a0_8, Value.int IntKind.i64 a0_9, Value.int IntKind.i64 a0_10, Value.int IntKind.i64 a0_11], Value.int IntKind.i64 1048576, Value.int IntKind.i64 (1048576 - ((n0x : Nat) : Int) - ((n0y : Nat) : Int)), Value.int IntKind.i64 (1048576 - ((n0x : Nat) : Int) - ((n0y : Nat) : Int)), Value.bool (decide (1048576 - ((n0x : Nat) : Int) - ((n0y : Nat) : Int) < 0)), Value.tuple #[Value.agg #[Value.slice (some { block := g0_3, off := 0 }) n0x c0_3, Value.int IntKind.i64 a0_0, Value.int IntKind.i64 a0_1, Value.int IntKind.i64 a0_2, Value.int IntKind.i64 a0_3, Value.int IntKind.i64 a0_4, Value.slice (some { block := g1_3, off := 0 }) zs0.length c1_3, Value.int IntKind.i64 r0, Value.int IntKind.i64 r1, Value.int IntKind.i64 r2, Value.int IntKind.i64 r3, Value.int IntKind.i64 r4, Value.int IntKind.i64 r5, Value.int IntKind.i64 r6], Value.bool f0v], Value.agg #[Value.slice A0x n0x c0x, Value.int IntKind.i64 a0_0, Value.int IntKind.i64 a0_1, Value.int IntKind.i64 a0_2, Value.int IntKind.i64 a0_3, Value.int IntKind.i64 a0_4, Value.slice A0y n0y c0y, Value.int IntKind.i64 a0_5, Value.int IntKind.i64 a0_6, Value.int IntKind.i64 a0_7, Value.int IntKind.i64 a0_8, Value.int IntKind.i64 a0_9, Value.int IntKind.i64 a0_10, Value.int IntKind.i64 a0_11], Value.agg #[Value.slice (some { block := g0_2, off := 0 }) n0x n0x, Value.int IntKind.i64 a0_0, Value.int IntKind.i64 a0_1, Value.int IntKind.i64 a0_2, Value.int IntKind.i64 a0_3, Value.int IntKind.i64 a0_4, Value.slice (some { block := g1_2, off := 0 }) n0y n0y, Value.int IntKind.i64 a0_5, Value.int IntKind.i64 a0_6, Value.int IntKind.i64 a0_7, Value.int IntKind.i64 a0_8, Value.int IntKind.i64 a0_9, Value.int IntKind.i64 a0_10, Value.int IntKind.i64 a0_11], Value.tuple #[Value.agg #[Value.slice (some { block := g0_3, off := 0 }) n0x c0_3, Value.int IntKind.i64 a0_0, Value.int IntKind.i64 a0_1, Value.int IntKind.i64 a0_2, Value.int IntKind.i64 a0_3, Value.int IntKind.i64 a0_4, Value.slice (some { block := g1_3, off := 0 }) zs0.length c1_3, Value.int IntKind.i64 r0, Value.int IntKind.i64 r1, Value.int IntKind.i64 r2, Value.int IntKind.i64 r3, Value.int IntKind.i64 r4, Value.int IntKind.i64 r5, Value.int IntKind.i64 r6], Value.bool f0v], Value.agg #[Value.slice (some { block := g0_3, off := 0 }) n0x c0_3, Value.int IntKind.i64 a0_0, Value.int IntKind.i64 a0_1, Value.int IntKind.i64 a0_2, Value.int IntKind.i64 a0_3, Value.int IntKind.i64 a0_4, Value.slice (some { block := g1_3, off := 0 }) zs0.length c1_3, Value.int IntKind.i64 r0, Value.int IntKind.i64 r1, Value.int IntKind.i64 r2, Value.int IntKind.i64 r3, Value.int IntKind.i64 r4, Value.int IntKind.i64 r5, Value.int IntKind.i64 r6], Value.bool f0v, Value.agg #[Value.slice A0x n0x c0x, Value.int IntKind.i64 a0_0, Value.int IntKind.i64 a0_1, Value.int IntKind.i64 a0_2, Value.int IntKind.i64 a0_3, Value.int IntKind.i64 a0_4, Value.slice A0y n0y c0y, Value.int IntKind.i64 a0_5, Value.int IntKind.i64 a0_6, Value.int IntKind.i64 a0_7, Value.int IntKind.i64 a0_8, Value.int IntKind.i64 a0_9, Value.int IntKind.i64 a0_10, Value.int IntKind.i64 a0_11], Value.agg #[Value.slice (some { block := g0_5, off := 0 }) n0x n0x, Value.int IntKind.i64 a0_0, Value.int IntKind.i64 a0_1, Value.int IntKind.i64 a0_2, Value.int IntKind.i64 a0_3, Value.int IntKind.i64 a0_4, Value.slice (some { block := g1_5, off := 0 }) n0y n0y, Value.int IntKind.i64 a0_5, Value.int IntKind.i64 a0_6, Value.int IntKind.i64 a0_7, Value.int IntKind.i64 a0_8, Value.int IntKind.i64 a0_9, Value.int IntKind.i64 a0_10, Value.int IntKind.i64 a0_11], Value.tuple #[Value.agg #[Value.slice (some { block := g0_7, off := 0 }) n0x c0_7, Value.int IntKind.i64 a0_0, Value.int IntKind.i64 a0_1, Value.int IntKind.i64 a0_2, Value.int IntKind.i64 a0_3, Value.int IntKind.i64 a0_4, Value.slice (some { block := g1_7, off := 0 }) zs0.length c1_7, Value.int IntKind.i64 r0, Value.int IntKind.i64 r1, Value.int IntKind.i64 r2, Value.int IntKind.i64 r3, Value.int IntKind.i64 r4, Value.int IntKind.i64 r5, Value.int IntKind.i64 r6], Value.bool f0v], Value.agg #[Value.slice (some { block := g0_5, off := 0 }) n0x n0x, Value.int IntKind.i64 a0_0, Value.int IntKind.i64 a0_1, Value.int IntKind.i64 a0_2, Value.int IntKind.i64 a0_3, Value.int IntKind.i64 a0_4, Value.slice (some { block := g1_5, off := 0 }) n0y n0y, Value.int IntKind.i64 a0_5, Value.int IntKind.i64 a0_6, Value.int IntKind.i64 a0_7, Value.int IntKind.i64 a0_8, Value.int IntKind.i64 a0_9, Value.int IntKind.i64 a0_10, Value.int IntKind.i64 a0_11], Value.tuple #[Value.agg #[Value.slice (some { block := g0_7, off := 0 }) n0x c0_7, Value.int IntKind.i64 a0_0, Value.int IntKind.i64 a0_1, Value.int IntKind.i64 a0_2, Value.int IntKind.i64 a0_3, Value.int IntKind.i64 a0_4, Value.slice (some { block := g1_7, off := 0 }) zs0.length c1_7, Value.int IntKind.i64 r0, Value.int IntKind.i64 r1, Value.int IntKind.i64 r2, Value.int IntKind.i64 r3, Value.int IntKind.i64 r4, Value.int IntKind.i64 r5, Value.int IntKind.i64 r6], Value.bool f0v], Value.agg #[Value.slice (some { block := g0_7, off := 0 }) n0x c0_7, Value.int IntKind.i64 a0_0, Value.int IntKind.i64 a0_1, Value.int IntKind.i64 a0_2, Value.int IntKind.i64 a0_3, Value.int IntKind.i64 a0_4, Value.slice (some { block := g1_7, off := 0 }) zs0.length c1_7, Value.int IntKind.i64 r0, Value.int IntKind.i64 r1, Value.int IntKind.i64 r2, Value.int IntKind.i64 r3, Value.int IntKind.i64 r4, Value.int IntKind.i64 r5, Value.int IntKind.i64 r6], Value.bool f0v, Value.agg #[Value.slice (some { block := g0_7, off := 0 }) n0x c0_7, Value.int IntKind.i64 a0_0, Value.int IntKind.i64 a0_1, Value.int IntKind.i64 a0_2, Value.int IntKind.i64 a0_3, Value.int IntKind.i64 a0_4, Value.slice (some { block := g1_7, off := 0 }) zs0.length c1_7, Value.int IntKind.i64 r0, Value.int IntKind.i64 r1, Value.int IntKind.i64 r2, Value.int IntKind.i64 r3, Value.int IntKind.i64 r4, Value.int IntKind.i64 r5, Value.int IntKind.i64 r6], Value.agg #[Value.slice (some { block := g0_3, off := 0 }) n0x c0_3, Value.int IntKind.i64 a0_0, Value.int IntKind.i64 a0_1, Value.int IntKind.i64 a0_2, Value.int IntKind.i64 a0_3, Value.int IntKind.i64 a0_4, Value.slice (some { block := g1_3, off := 0 }) zs0.length c1_3, Value.int IntKind.i64 r0, Value.int IntKind.i64 r1, Value.int IntKind.i64 r2, Value.int IntKind.i64 r3, Value.int IntKind.i64 r4, Value.int IntKind.i64 r5, Value.int IntKind.i64 r6], Value.bool true, Value.bool false, Value.bool false, Value.bool f0v, Value.bool f0v, Value.bool false, Value.bool false, f 41, f 42, f 43, f 44, f 45, undef, undef, undef, undef, undef, undef, undef, undef, undef, undef, undef, undef, undef, undef, undef, undef, undef, undef, undef, undef, undef, undef, undef, undef, undef, undef, undef, undef, undef, undef, undef, undef, undef, undef, undef, undef, undef, undef, undef, undef, undef, undef, undef, undef, undef, undef, undef, undef, undef, undef], []⟩ v1 from H _ fun _ _ h => h
      intro K hK
      rcases (by omega : i = 0 ∨ i = 1 ∨ i = 2 ∨ i = 3 ∨ i = 4) with rfl | rfl | rfl | rfl | rfl
      · obtain rfl := Option.some.inj ho
        refine wpOp_plain rfl rfl ?_
        unfold Oper.wp
        go_simp
        exact hK _ _ ⟨⟨⟨updf f 41 (.agg #[.slice (some ⟨g0_5, 0, none⟩) n0x n0x, .int .i64 a0_0, .int .i64 a0_1, .int .i64 a0_2, .int .i64 a0_3, .int .i64 a0_4, .slice (some ⟨g1_5, 0, none⟩) n0y n0y, .int .i64 a0_5, .int .i64 a0_6, .int .i64 a0_7, .int .i64 a0_8, .int .i64 a0_9, .int .i64 a0_10, .int .i64 a0_11]), rfl⟩, hin⟩, rfl, fun j hj hw hu hf => by
            rcases j with _ | _ | _ | _ | _ | j
            · exact absurd rfl hj
            · first | (have h9 : _ = _ := hf; exact h9) | rfl
            · exact hf
            · first | (have h9 : _ = _ := hf; exact h9) | rfl
            · first | (have h9 : _ = _ := hf; exact h9) | rfl
            · exact trivial⟩
      · obtain rfl := Option.some.inj ho
        refine wpOp_plain rfl rfl ?_
        unfold Oper.wp
        go_simp
        exact hK _ _ ⟨⟨⟨updf f 42 (.agg #[.slice A0x n0x c0x, .int .i64 a0_0, .int .i64 a0_1, .int .i64 a0_2, .int .i64 a0_3, .int .i64 a0_4, .slice A0y n0y c0y, .int .i64 a0_5, .int .i64 a0_6, .int .i64 a0_7, .int .i64 a0_8, .int .i64 a0_9, .int .i64 a0_10, .int .i64 a0_11]), rfl⟩, hin⟩, rfl, fun j hj hw hu hf => by
            rcases j with _ | _ | _ | _ | _ | j
            · first | (have h9 : _ = _ := hf; exact h9) | rfl
            · exact absurd rfl hj
            · exact hf
            · first | (have h9 : _ = _ := hf; exact h9) | rfl
            · first | (have h9 : _ = _ := hf; exact h9) | rfl
            · exact trivial⟩
      · obtain rfl := Option.some.inj ho
        have f1 := haf { on := 1, ground := .data } (by simp) rfl rfl
        have f1 : _ = _ := Option.some.inj f1
        refine wpOp_plain rfl rfl ?_
        unfold Oper.wp
        go_simp
        refine (toBakery_w A0x n0x c0x z0x A0y n0y c0y z0y a0_0 a0_1 a0_2 a0_3 a0_4 a0_5 a0_6 a0_7 a0_8 a0_9 a0_10 a0_11 _ (by first | omega | (unfold maxLen; omega)) (by first | omega | (unfold maxLen; omega)) (R0x.out.in_ ((IC.out.trans j_9).trans hin)) (R0y.out.in_ ((IC.out.trans j_9).trans hin))).mono ?_
        rintro _ v2 ⟨g0_2, g1_2, rfl, ho0, hg0, ho1, hg1, hb2⟩
        exact hK _ _ ⟨⟨⟨updf f 43 (.agg #[.slice (some ⟨g0_2, 0, none⟩) n0x n0x, .int .i64 a0_0, .int .i64 a0_1, .int .i64 a0_2, .int .i64 a0_3, .int .i64 a0_4, .slice (some ⟨g1_2, 0, none⟩) n0y n0y, .int .i64 a0_5, .int .i64 a0_6, .int .i64 a0_7, .int .i64 a0_8, .int .i64 a0_9, .int .i64 a0_10, .int .i64 a0_11]), rfl⟩, hin.step hb2⟩, ⟨g0_2, _, g1_2, _, rfl, Nat.le_trans (Nat.le_trans hBl_9 hin.size) hg0, ho0, Nat.le_trans (Nat.le_trans hBl_9 hin.size) hg1, ho1⟩, fun j hj hw hu hf => by
            rcases j with _ | _ | _ | _ | _ | j
            · first | (have h9 : _ = _ := hf; exact h9) | rfl
            · first | (have h9 : _ = _ := hf; exact h9) | rfl
            · exact absurd rfl hj
            · first | (have h9 : _ = _ := hf; exact h9) | rfl
            · first | (have h9 : _ = _ := hf; exact h9) | rfl
            · exact trivial⟩
      · obtain rfl := Option.some.inj ho
        have f0 := haf { on := 0, ground := .data } (by simp) rfl rfl
        have f0 : _ = _ := Option.some.inj f0
        obtain ⟨g0_2, c0_2, g1_2, c1_2, f2, hb20, ho20, hb21, ho21⟩ := haf { on := 2, ground := .data } (by simp) rfl rfl
        have f2 : _ = _ := Option.some.inj f2
        refine wpOp_plain rfl rfl ?_
        unfold Oper.wp
        go_simp
        refine (eqBakery_w (some ⟨g0_5, 0, none⟩) (some ⟨g0_2, 0, none⟩) n0x n0x c0_2 z0x (some ⟨g1_5, 0, none⟩) (some ⟨g1_2, 0, none⟩) n0y n0y c1_2 z0y a0_0 a0_1 a0_2 a0_3 a0_4 a0_5 a0_6 a0_7 a0_8 a0_9 a0_10 a0_11 _ (by first | omega | (unfold maxLen; omega)) (by first | omega | (unfold maxLen; omega)) (ov_X5.reads) (ho20.reads) (ov_X6.reads) (ho21.reads)).mono ?_
        rintro _ v2 ⟨rfl, hb2⟩
        exact hK _ _ ⟨⟨⟨updf f 44 (.bool true), rfl⟩, hin.step hb2⟩, rfl, fun j hj hw hu hf => by
            rcases j with _ | _ | _ | _ | _ | j
            · first | (have h9 : _ = _ := hf; exact h9) | rfl
            · first | (have h9 : _ = _ := hf; exact h9) | rfl
            · exact absurd (hu.symm.trans (show (_ || usesB _ _ _ _) = false by kernel_rfl)) (by decide)
            · exact absurd rfl hj
            · first | (have h9 : _ = _ := hf; exact h9) | rfl
            · exact trivial⟩
      · obtain rfl := Option.some.inj ho
        have f3 := haf { on := 3, ground := .data } (by simp) rfl rfl
        have f3 : _ = _ := Option.some.inj f3
        refine wpOp_plain rfl rfl ?_
        unfold Oper.wp
        go_simp
        exact hK _ _ ⟨⟨⟨updf f 45 (.bool false), rfl⟩, hin⟩, rfl, fun j hj hw hu hf => by
            rcases j with _ | _ | _ | _ | _ | j
            · first | (have h9 : _ = _ := hf; exact h9) | rfl
            · first | (have h9 : _ = _ := hf; exact h9) | rfl
            · exact hf
            · first | (have h9 : _ = _ := hf; exact h9) | rfl
            · exact absurd rfl hj
            · exact trivial⟩
    intro a w_10 hI hF
    obtain ⟨⟨ha, rfl⟩, hn_10⟩ := hI
    have hb_10 := hn_10.below
    have he_10_45 : ha 45 = _ := Option.some.inj (hF 4 (by decide) (by decide))
    clear hF
    rw [he_10_45]
    clear he_10_45
    have j_10 : In w_4.heap.size w_4 w_10 := In.step (by (repeat (first | exact In.refl _ | assumption | apply In.alloc | apply In.drewN | apply In.drew | (refine In.step ?_ (by assumption))))) hb_10
    have k_10_p0 : Blk w_10 (b_p0) 35 #[.slice A0x n0x c0x, .int .i64 a0_0, .int .i64 a0_1, .int .i64 a0_2, .int .i64 a0_3, .int .i64 a0_4, .slice A0y n0y c0y, .int .i64 a0_5, .int .i64 a0_6, .int .i64 a0_7, .int .i64 a0_8, .int .i64 a0_9, .int .i64 a0_10, .int .i64 a0_11] := Blk.step (by (with_reducible (repeat (first | assumption | exact Blk.new' (by simp) | apply Blk.drewN | apply Blk.drew | apply Blk.alloc | (refine Blk.far ?_ (by (try simp) <;> omega) _))))) hb_10
    have l_10_p0 := k_10_p0.lt
    have k_10_l1 : Blk w_10 (b_l1) 45 #[.slice (some ⟨g0_3, 0, none⟩) n0x c0_3, .int .i64 a0_0, .int .i64 a0_1, .int .i64 a0_2, .int .i64 a0_3, .int .i64 a0_4, .slice (some ⟨g1_3, 0, none⟩) zs0.length c1_3, .int .i64 r0, .int .i64 r1, .int .i64 r2, .int .i64 r3, .int .i64 r4, .int .i64 r5, .int .i64 r6] := Blk.step (by (with_reducible (repeat (first | assumption | exact Blk.new' (by simp) | apply Blk.drewN | apply Blk.drew | apply Blk.alloc | (refine Blk.far ?_ (by (try simp) <;> omega) _))))) hb_10
    have l_10_l1 := k_10_l1.lt
    have k_10_l2 : Blk w_10 (b_l2) 45 #[.slice (some ⟨g0_5, 0, none⟩) n0x n0x, .int .i64 a0_0, .int .i64 a0_1, .int .i64 a0_2, .int .i64 a0_3, .int .i64 a0_4, .slice (some ⟨g1_5, 0, none⟩) n0y n0y, .int .i64 a0_5, .int .i64 a0_6, .int .i64 a0_7, .int .i64 a0_8, .int .i64 a0_9, .int .i64 a0_10, .int .i64 a0_11] := Blk.step (by (with_reducible (repeat (first | assumption | exact Blk.new' (by simp) | apply Blk.drewN | apply Blk.drew | apply Blk.alloc | (refine Blk.far ?_ (by (try simp) <;> omega) _))))) hb_10
    obtain ⟨c_10_l2_0, c_10_l2_1, c_10_l2_2, c_10_l2_3, c_10_l2_4, c_10_l2_5, c_10_l2_6, c_10_l2_7, c_10_l2_8, c_10_l2_9, c_10_l2_10, c_10_l2_11, c_10_l2_12, c_10_l2_13⟩ := cells14 k_10_l2
    have l_10_l2 := k_10_l2.lt
    have k_10_l3 : Blk w_10 (b_l3) 45 #[.slice (some ⟨g0_7, 0, none⟩) n0x c0_7, .int .i64 a0_0, .int .i64 a0_1, .int .i64 a0_2, .int .i64 a0_3, .int .i64 a0_4, .slice (some ⟨g1_7, 0, none⟩) zs0.length c1_7, .int .i64 r0, .int .i64 r1, .int .i64 r2, .int .i64 r3, .int .i64 r4, .int .i64 r5, .int .i64 r6] := Blk.step (by (with_reducible (repeat (first | assumption | exact Blk.new' (by simp) | apply Blk.drewN | apply Blk.drew | apply Blk.alloc | (refine Blk.far ?_ (by (try simp) <;> omega) _))))) hb_10
    have l_10_l3 := k_10_l3.lt
    have o_10_X5 : OwnC w_10 g0_5 n0x n0x z0x := OwnC.step (by with_reducible (repeat (first | assumption | apply OwnC.drewN | apply OwnC.drew | apply OwnC.alloc))) hb_10
    have o_10_X6 : OCEvent w_10 g1_5 n0y n0y z0y := OCEvent.step (by with_reducible (repeat (first | assumption | apply OCEvent.drewN | apply OCEvent.drew | apply OCEvent.alloc))) hb_10
    have o_10_X7 : OwnC w_10 g0_7 n0x c0_7 z0x := OwnC.step (by with_reducible (repeat (first | assumption | apply OwnC.drewN | apply OwnC.drew | apply OwnC.alloc))) hb_10
    have o_10_X8 : OCEvent w_10 g1_7 zs0.length c1_7 zs0 := OCEvent.step (by with_reducible (repeat (first | assumption | apply OCEvent.drewN | apply OCEvent.drew | apply OCEvent.alloc))) hb_10
    clear j_9 k_9_p0 c_9_p0_0 c_9_p0_1 c_9_p0_2 c_9_p0_3 c_9_p0_4 c_9_p0_5 c_9_p0_6 c_9_p0_7 c_9_p0_8 c_9_p0_9 c_9_p0_10 c_9_p0_11 c_9_p0_12 c_9_p0_13 l_9_p0 k_9_l1 l_9_l1 k_9_l2 c_9_l2_0 c_9_l2_1 c_9_l2_2 c_9_l2_3 c_9_l2_4 c_9_l2_5 c_9_l2_6 c_9_l2_7 c_9_l2_8 c_9_l2_9 c_9_l2_10 c_9_l2_11 c_9_l2_12 c_9_l2_13 l_9_l2 k_9_l3 l_9_l3 o_9_X5 o_9_X6 o_9_X7 o_9_X8 hb_9
    clear hn_10
    clear hBl_9 hBg_9
    go_wp2_with fail
    refine (markBakery_w g0_5 n0x n0x z0x g1_5 n0y n0y z0y a0_0 a0_1 a0_2 a0_3 a0_4 a0_5 a0_6 a0_7 a0_8 a0_9 a0_10 a0_11 (1) _ (by omega) (by omega) (by omega) (by with_reducible (repeat (first | assumption | apply OwnC.drewN | apply OwnC.drew | apply OwnC.alloc))) (by with_reducible (repeat (first | assumption | apply OCEvent.drewN | apply OCEvent.drew | apply OCEvent.alloc)))).mono ?_
    rintro _ w_11 ⟨rfl, v_11, hx_11, ha_11, hy_11, hb_11⟩
    have hb9_11 := hb_11
    clear hb_11
    have jv : In w_4.heap.size w_4 v_11 := In.wide (by (repeat (first | exact In.refl _ | assumption | apply In.alloc | apply In.drewN | apply In.drew | (refine In.step ?_ (by assumption))))) (below_of_only ha_11 GX_X5.out (In.size (B := w_4.heap.size) (a := w_4) (by (repeat (first | exact In.refl _ | assumption | apply In.alloc | apply In.drewN | apply In.drew | (refine In.step ?_ (by assumption)))))))
    have j_11 : In w_4.heap.size w_4 w_11 := In.wide jv (below_of_only hb9_11 GX_X6.out jv.size)
    have kv_p0 : Blk v_11 (b_p0) 35 #[.slice A0x n0x c0x, .int .i64 a0_0, .int .i64 a0_1, .int .i64 a0_2, .int .i64 a0_3, .int .i64 a0_4, .slice A0y n0y c0y, .int .i64 a0_5, .int .i64 a0_6, .int .i64 a0_7, .int .i64 a0_8, .int .i64 a0_9, .int .i64 a0_10, .int .i64 a0_11] := Blk.grown k_10_p0 ha_11 (fun h => (OwnC.ne o_10_X5 k_10_p0 (by decide)) (Option.some.inj h).symm)
    have kv_l1 : Blk v_11 (b_l1) 45 #[.slice (some ⟨g0_3, 0, none⟩) n0x c0_3, .int .i64 a0_0, .int .i64 a0_1, .int .i64 a0_2, .int .i64 a0_3, .int .i64 a0_4, .slice (some ⟨g1_3, 0, none⟩) zs0.length c1_3, .int .i64 r0, .int .i64 r1, .int .i64 r2, .int .i64 r3, .int .i64 r4, .int .i64 r5, .int .i64 r6] := Blk.grown k_10_l1 ha_11 (fun h => (OwnC.ne o_10_X5 k_10_l1 (by decide)) (Option.some.inj h).symm)
    have kv_l2 : Blk v_11 (b_l2) 45 #[.slice (some ⟨g0_5, 0, none⟩) n0x n0x, .int .i64 a0_0, .int .i64 a0_1, .int .i64 a0_2, .int .i64 a0_3, .int .i64 a0_4, .slice (some ⟨g1_5, 0, none⟩) n0y n0y, .int .i64 a0_5, .int .i64 a0_6, .int .i64 a0_7, .int .i64 a0_8, .int .i64 a0_9, .int .i64 a0_10, .int .i64 a0_11] := Blk.grown k_10_l2 ha_11 (fun h => (OwnC.ne o_10_X5 k_10_l2 (by decide)) (Option.some.inj h).symm)
    have kv_l3 : Blk v_11 (b_l3) 45 #[.slice (some ⟨g0_7, 0, none⟩) n0x c0_7, .int .i64 a0_0, .int .i64 a0_1, .int .i64 a0_2, .int .i64 a0_3, .int .i64 a0_4, .slice (some ⟨g1_7, 0, none⟩) zs0.length c1_7, .int .i64 r0, .int .i64 r1, .int .i64 r2, .int .i64 r3, .int .i64 r4, .int .i64 r5, .int .i64 r6] := Blk.grown k_10_l3 ha_11 (fun h => (OwnC.ne o_10_X5 k_10_l3 (by decide)) (Option.some.inj h).symm)
    have ov_X6 : OCEvent v_11 g1_5 n0y n0y z0y := OCEvent.only o_10_X6 ha_11 (by first | exact NE_X6_X5.out | exact NE_X5_X6.out.symm)
    have k_11_p0 : Blk w_11 (b_p0) 35 #[.slice A0x n0x c0x, .int .i64 a0_0, .int .i64 a0_1, .int .i64 a0_2, .int .i64 a0_3, .int .i64 a0_4, .slice A0y n0y c0y, .int .i64 a0_5, .int .i64 a0_6, .int .i64 a0_7, .int .i64 a0_8, .int .i64 a0_9, .int .i64 a0_10, .int .i64 a0_11] := Blk.grown kv_p0 hb9_11 (fun h => (OCEvent.ne ov_X6 kv_p0 (by decide)) (Option.some.inj h).symm)
    have l_11_p0 := k_11_p0.lt
    have k_11_l1 : Blk w_11 (b_l1) 45 #[.slice (some ⟨g0_3, 0, none⟩) n0x c0_3, .int .i64 a0_0, .int .i64 a0_1, .int .i64 a0_2, .int .i64 a0_3, .int .i64 a0_4, .slice (some ⟨g1_3, 0, none⟩) zs0.length c1_3, .int .i64 r0, .int .i64 r1, .int .i64 r2, .int .i64 r3, .int .i64 r4, .int .i64 r5, .int .i64 r6] := Blk.grown kv_l1 hb9_11 (fun h => (OCEvent.ne ov_X6 kv_l1 (by decide)) (Option.some.inj h).symm)
    obtain ⟨c_11_l1_0, c_11_l1_1, c_11_l1_2, c_11_l1_3, c_11_l1_4, c_11_l1_5, c_11_l1_6, c_11_l1_7, c_11_l1_8, c_11_l1_9, c_11_l1_10, c_11_l1_11, c_11_l1_12, c_11_l1_13⟩ := cells14 k_11_l1
    have l_11_l1 := k_11_l1.lt
    have k_11_l2 : Blk w_11 (b_l2) 45 #[.slice (some ⟨g0_5, 0, none⟩) n0x n0x, .int .i64 a0_0, .int .i64 a0_1, .int .i64 a0_2, .int .i64 a0_3, .int .i64 a0_4, .slice (some ⟨g1_5, 0, none⟩) n0y n0y, .int .i64 a0_5, .int .i64 a0_6, .int .i64 a0_7, .int .i64 a0_8, .int .i64 a0_9, .int .i64 a0_10, .int .i64 a0_11] := Blk.grown kv_l2 hb9_11 (fun h => (OCEvent.ne ov_X6 kv_l2 (by decide)) (Option.some.inj h).symm)
    have l_11_l2 := k_11_l2.lt
    have k_11_l3 : Blk w_11 (b_l3) 45 #[.slice (some ⟨g0_7, 0, none⟩) n0x c0_7, .int .i64 a0_0, .int .i64 a0_1, .int .i64 a0_2, .int .i64 a0_3, .int .i64 a0_4, .slice (some ⟨g1_7, 0, none⟩) zs0.length c1_7, .int .i64 r0, .int .i64 r1, .int .i64 r2, .int .i64 r3, .int .i64 r4, .int .i64 r5, .int .i64 r6] := Blk.grown kv_l3 hb9_11 (fun h => (OCEvent.ne ov_X6 kv_l3 (by decide)) (Option.some.inj h).symm)
    obtain ⟨c_11_l3_0, c_11_l3_1, c_11_l3_2, c_11_l3_3, c_11_l3_4, c_11_l3_5, c_11_l3_6, c_11_l3_7, c_11_l3_8, c_11_l3_9, c_11_l3_10, c_11_l3_11, c_11_l3_12, c_11_l3_13⟩ := cells14 k_11_l3
    have l_11_l3 := k_11_l3.lt
    have o_11_X7 : OwnC w_11 g0_7 n0x c0_7 z0x := OwnC.only (OwnC.only o_10_X7 ha_11 (by first | exact NE_X7_X5.out | exact NE_X5_X7.out.symm)) hb9_11 (by first | exact NE_X7_X6.out | exact NE_X6_X7.out.symm)
    have o_11_X8 : OCEvent w_11 g1_7 zs0.length c1_7 zs0 := OCEvent.only (OCEvent.only o_10_X8 ha_11 (by first | exact NE_X8_X5.out | exact NE_X5_X8.out.symm)) hb9_11 (by first | exact NE_X8_X6.out | exact NE_X6_X8.out.symm)
    have o_11_X5 : OwnC w_11 g0_5 n0x n0x (marksI (1) n0x) := OwnC.only hx_11 hb9_11 (by first | exact NE_X5_X6.out | exact NE_X6_X5.out.symm)
    have o_11_X6 : OCEvent w_11 g1_5 n0y n0y (marksEvent (1 + n0x) n0y) := hy_11
    clear hx_11 hy_11 ha_11 hb9_11 jv ov_X6 kv_p0 kv_l1 kv_l2 kv_l3
    clear j_10 k_10_p0 l_10_p0 k_10_l1 l_10_l1 k_10_l2 c_10_l2_0 c_10_l2_1 c_10_l2_2 c_10_l2_3 c_10_l2_4 c_10_l2_5 c_10_l2_6 c_10_l2_7 c_10_l2_8 c_10_l2_9 c_10_l2_10 c_10_l2_11 c_10_l2_12 c_10_l2_13 l_10_l2 k_10_l3 l_10_l3 o_10_X5 o_10_X6 o_10_X7 o_10_X8 hb_10
    go_wp2_with fail
    refine (eqBakery_w (some ⟨g0_7, 0, none⟩) (some ⟨g0_3, 0, none⟩) n0x c0_7 c0_3 z0x (some ⟨g1_7, 0, none⟩) (some ⟨g1_3, 0, none⟩) zs0.length c1_7 c1_3 zs0 a0_0 a0_1 a0_2 a0_3 a0_4 r0 r1 r2 r3 r4 r5 r6 _ (by first | omega | (unfold maxLen; omega)) (by first | omega | (unfold maxLen; omega)) (OwnC.reads (by with_reducible (repeat (first | assumption | apply OwnC.drewN | apply OwnC.drew | apply OwnC.alloc)))) (HW0.out.in_ (by (repeat (first | exact In.refl _ | assumption | apply In.alloc | apply In.drewN | apply In.drew | (refine In.step ?_ (by assumption)))))) (OCEvent.reads (by with_reducible (repeat (first | assumption | apply OCEvent.drewN | apply OCEvent.drew | apply OCEvent.alloc)))) (HW1.out.in_ (by (repeat (first | exact In.refl _ | assumption | apply In.alloc | apply In.drewN | apply In.drew | (refine In.step ?_ (by assumption))))))).mono ?_
    rintro _ w_12 ⟨rfl, hb_12⟩
    have j_12 : In w_4.heap.size w_4 w_12 := In.step (by (repeat (first | exact In.refl _ | assumption | apply In.alloc | apply In.drewN | apply In.drew | (refine In.step ?_ (by assumption))))) hb_12
    have k_12_p0 : Blk w_12 (b_p0) 35 #[.slice A0x n0x c0x, .int .i64 a0_0, .int .i64 a0_1, .int .i64 a0_2, .int .i64 a0_3, .int .i64 a0_4, .slice A0y n0y c0y, .int .i64 a0_5, .int .i64 a0_6, .int .i64 a0_7, .int .i64 a0_8, .int .i64 a0_9, .int .i64 a0_10, .int .i64 a0_11] := Blk.step (by (with_reducible (repeat (first | assumption | exact Blk.new' (by simp) | apply Blk.drewN | apply Blk.drew | apply Blk.alloc | (refine Blk.far ?_ (by (try simp) <;> omega) _))))) hb_12
    have l_12_p0 := k_12_p0.lt
    have k_12_l1 : Blk w_12 (b_l1) 45 #[.slice (some ⟨g0_3, 0, none⟩) n0x c0_3, .int .i64 a0_0, .int .i64 a0_1, .int .i64 a0_2, .int .i64 a0_3, .int .i64 a0_4, .slice (some ⟨g1_3, 0, none⟩) zs0.length c1_3, .int .i64 r0, .int .i64 r1, .int .i64 r2, .int .i64 r3, .int .i64 r4, .int .i64 r5, .int .i64 r6] := Blk.step (by (with_reducible (repeat (first | assumption | exact Blk.new' (by simp) | apply Blk.drewN | apply Blk.drew | apply Blk.alloc | (refine Blk.far ?_ (by (try simp) <;> omega) _))))) hb_12
    have l_12_l1 := k_12_l1.lt
    have k_12_l2 : Blk w_12 (b_l2) 45 #[.slice (some ⟨g0_5, 0, none⟩) n0x n0x, .int .i64 a0_0, .int .i64 a0_1, .int .i64 a0_2, .int .i64 a0_3, .int .i64 a0_4, .slice (some ⟨g1_5, 0, none⟩) n0y n0y, .int .i64 a0_5, .int .i64 a0_6, .int .i64 a0_7, .int .i64 a0_8, .int .i64 a0_9, .int .i64 a0_10, .int .i64 a0_11] := Blk.step (by (with_reducible (repeat (first | assumption | exact Blk.new' (by simp) | apply Blk.drewN | apply Blk.drew | apply Blk.alloc | (refine Blk.far ?_ (by (try simp) <;> omega) _))))) hb_12
    have l_12_l2 := k_12_l2.lt
    have k_12_l3 : Blk w_12 (b_l3) 45 #[.slice (some ⟨g0_7, 0, none⟩) n0x c0_7, .int .i64 a0_0, .int .i64 a0_1, .int .i64 a0_2, .int .i64 a0_3, .int .i64 a0_4, .slice (some ⟨g1_7, 0, none⟩) zs0.length c1_7, .int .i64 r0, .int .i64 r1, .int .i64 r2, .int .i64 r3, .int .i64 r4, .int .i64 r5, .int .i64 r6] := Blk.step (by (with_reducible (repeat (first | assumption | exact Blk.new' (by simp) | apply Blk.drewN | apply Blk.drew | apply Blk.alloc | (refine Blk.far ?_ (by (try simp) <;> omega) _))))) hb_12
    obtain ⟨c_12_l3_0, c_12_l3_1, c_12_l3_2, c_12_l3_3, c_12_l3_4, c_12_l3_5, c_12_l3_6, c_12_l3_7, c_12_l3_8, c_12_l3_9, c_12_l3_10, c_12_l3_11, c_12_l3_12, c_12_l3_13⟩ := cells14 k_12_l3
    have l_12_l3 := k_12_l3.lt
    have o_12_X5 : OwnC w_12 g0_5 n0x n0x (marksI (1) n0x) := OwnC.step (by with_reducible (repeat (first | assumption | apply OwnC.drewN | apply OwnC.drew | apply OwnC.alloc))) hb_12
    have o_12_X6 : OCEvent w_12 g1_5 n0y n0y (marksEvent (1 + n0x) n0y) := OCEvent.step (by with_reducible (repeat (first | assumption | apply OCEvent.drewN | apply OCEvent.drew | apply OCEvent.alloc))) hb_12
    have o_12_X7 : OwnC w_12 g0_7 n0x c0_7 z0x := OwnC.step (by with_reducible (repeat (first | assumption | apply OwnC.drewN | apply OwnC.drew | apply OwnC.alloc))) hb_12
    have o_12_X8 : OCEvent w_12 g1_7 zs0.length c1_7 zs0 := OCEvent.step (by with_reducible (repeat (first | assumption | apply OCEvent.drewN | apply OCEvent.drew | apply OCEvent.alloc))) hb_12
    clear j_11 k_11_p0 l_11_p0 k_11_l1 c_11_l1_0 c_11_l1_1 c_11_l1_2 c_11_l1_3 c_11_l1_4 c_11_l1_5 c_11_l1_6 c_11_l1_7 c_11_l1_8 c_11_l1_9 c_11_l1_10 c_11_l1_11 c_11_l1_12 c_11_l1_13 l_11_l1 k_11_l2 l_11_l2 k_11_l3 c_11_l3_0 c_11_l3_1 c_11_l3_2 c_11_l3_3 c_11_l3_4 c_11_l3_5 c_11_l3_6 c_11_l3_7 c_11_l3_8 c_11_l3_9 c_11_l3_10 c_11_l3_11 c_11_l3_12 c_11_l3_13 l_11_l3 o_11_X7 o_11_X8 o_11_X5 o_11_X6
    as_aux_lemma =>
     go_wp2_with fail
     refine (markBakery_w g0_7 n0x c0_7 z0x g1_7 zs0.length c1_7 zs0 a0_0 a0_1 a0_2 a0_3 a0_4 r0 r1 r2 r3 r4 r5 r6 (1) _ (by omega) (by omega) (by omega) (by with_reducible (repeat (first | assumption | apply OwnC.drewN | apply OwnC.drew | apply OwnC.alloc))) (by with_reducible (repeat (first | assumption | apply OCEvent.drewN | apply OCEvent.drew | apply OCEvent.alloc)))).mono ?_
     rintro _ w_13 ⟨rfl, v_13, hx_13, ha_13, hy_13, hb_13⟩
     have hb9_13 := hb_13
     clear hb_13
     have jv : In w_4.heap.size w_4 v_13 := In.wide (by (repeat (first | exact In.refl _ | assumption | apply In.alloc | apply In.drewN | apply In.drew | (refine In.step ?_ (by assumption))))) (below_of_only ha_13 GX_X7.out (In.size (B := w_4.heap.size) (a := w_4) (by (repeat (first | exact In.refl _ | assumption | apply In.alloc | apply In.drewN | apply In.drew | (refine In.step ?_ (by assumption)))))))
     have j_13 : In w_4.heap.size w_4 w_13 := In.wide jv (below_of_only hb9_13 GX_X8.out jv.size)
     have kv_p0 : Blk v_13 (b_p0) 35 #[.slice A0x n0x c0x, .int .i64 a0_0, .int .i64 a0_1, .int .i64 a0_2, .int .i64 a0_3, .int .i64 a0_4, .slice A0y n0y c0y, .int .i64 a0_5, .int .i64 a0_6, .int .i64 a0_7, .int .i64 a0_8, .int .i64 a0_9, .int .i64 a0_10, .int .i64 a0_11] := Blk.grown k_12_p0 ha_13 (fun h => (OwnC.ne o_12_X7 k_12_p0 (by decide)) (Option.some.inj h).symm)
     have kv_l1 : Blk v_13 (b_l1) 45 #[.slice (some ⟨g0_3, 0, none⟩) n0x c0_3, .int .i64 a0_0, .int .i64 a0_1, .int .i64 a0_2, .int .i64 a0_3, .int .i64 a0_4, .slice (some ⟨g1_3, 0, none⟩) zs0.length c1_3, .int .i64 r0, .int .i64 r1, .int .i64 r2, .int .i64 r3, .int .i64 r4, .int .i64 r5, .int .i64 r6] := Blk.grown k_12_l1 ha_13 (fun h => (OwnC.ne o_12_X7 k_12_l1 (by decide)) (Option.some.inj h).symm)
     have kv_l2 : Blk v_13 (b_l2) 45 #[.slice (some ⟨g0_5, 0, none⟩) n0x n0x, .int .i64 a0_0, .int .i64 a0_1, .int .i64 a0_2, .int .i64 a0_3, .int .i64 a0_4, .slice (some ⟨g1_5, 0, none⟩) n0y n0y, .int .i64 a0_5, .int .i64 a0_6, .int .i64 a0_7, .int .i64 a0_8, .int .i64 a0_9, .int .i64 a0_10, .int .i64 a0_11] := Blk.grown k_12_l2 ha_13 (fun h => (OwnC.ne o_12_X7 k_12_l2 (by decide)) (Option.some.inj h).symm)
     have kv_l3 : Blk v_13 (b_l3) 45 #[.slice (some ⟨g0_7, 0, none⟩) n0x c0_7, .int .i64 a0_0, .int .i64 a0_1, .int .i64 a0_2, .int .i64 a0_3, .int .i64 a0_4, .slice (some ⟨g1_7, 0, none⟩) zs0.length c1_7, .int .i64 r0, .int .i64 r1, .int .i64 r2, .int .i64 r3, .int .i64 r4, .int .i64 r5, .int .i64 r6] := Blk.grown k_12_l3 ha_13 (fun h => (OwnC.ne o_12_X7 k_12_l3 (by decide)) (Option.some.inj h).symm)
     have ov_X8 : OCEvent v_13 g1_7 zs0.length c1_7 zs0 := OCEvent.only o_12_X8 ha_13 (by first | exact NE_X8_X7.out | exact NE_X7_X8.out.symm)
     have k_13_p0 : Blk w_13 (b_p0) 35 #[.slice A0x n0x c0x, .int .i64 a0_0, .int .i64 a0_1, .int .i64 a0_2, .int .i64 a0_3, .int .i64 a0_4, .slice A0y n0y c0y, .int .i64 a0_5, .int .i64 a0_6, .int .i64 a0_7, .int .i64 a0_8, .int .i64 a0_9, .int .i64 a0_10, .int .i64 a0_11] := Blk.grown kv_p0 hb9_13 (fun h => (OCEvent.ne ov_X8 kv_p0 (by decide)) (Option.some.inj h).symm)
     have l_13_p0 := k_13_p0.lt
     have k_13_l1 : Blk w_13 (b_l1) 45 #[.slice (some ⟨g0_3, 0, none⟩) n0x c0_3, .int .i64 a0_0, .int .i64 a0_1, .int .i64 a0_2, .int .i64 a0_3, .int .i64 a0_4, .slice (some ⟨g1_3, 0, none⟩) zs0.length c1_3, .int .i64 r0, .int .i64 r1, .int .i64 r2, .int .i64 r3, .int .i64 r4, .int .i64 r5, .int .i64 r6] := Blk.grown kv_l1 hb9_13 (fun h => (OCEvent.ne ov_X8 kv_l1 (by decide)) (Option.some.inj h).symm)
     have l_13_l1 := k_13_l1.lt
     have k_13_l2 : Blk w_13 (b_l2) 45 #[.slice (some ⟨g0_5, 0, none⟩) n0x n0x, .int .i64 a0_0, .int .i64 a0_1, .int .i64 a0_2, .int .i64 a0_3, .int .i64 a0_4, .slice (some ⟨g1_5, 0, none⟩) n0y n0y, .int .i64 a0_5, .int .i64 a0_6, .int .i64 a0_7, .int .i64 a0_8, .int .i64 a0_9, .int .i64 a0_10, .int .i64 a0_11] := Blk.grown kv_l2 hb9_13 (fun h => (OCEvent.ne ov_X8 kv_l2 (by decide)) (Option.some.inj h).symm)
     have l_13_l2 := k_13_l2.lt
     have k_13_l3 : Blk w_13 (b_l3) 45 #[.slice (some ⟨g0_7, 0, none⟩) n0x c0_7, .int .i64 a0_0, .int .i64 a0_1, .int .i64 a0_2, .int .i64 a0_3, .int .i64 a0_4, .slice (some ⟨g1_7, 0, none⟩) zs0.length c1_7, .int .i64 r0, .int .i64 r1, .int .i64 r2, .int .i64 r3, .int .i64 r4, .int .i64 r5, .int .i64 r6] := Blk.grown kv_l3 hb9_13 (fun h => (OCEvent.ne ov_X8 kv_l3 (by decide)) (Option.some.inj h).symm)
     obtain ⟨c_13_l3_0, c_13_l3_1, c_13_l3_2, c_13_l3_3, c_13_l3_4, c_13_l3_5, c_13_l3_6, c_13_l3_7, c_13_l3_8, c_13_l3_9, c_13_l3_10, c_13_l3_11, c_13_l3_12, c_13_l3_13⟩ := cells14 k_13_l3
     have l_13_l3 := k_13_l3.lt
     have o_13_X5 : OwnC w_13 g0_5 n0x n0x (marksI (1) n0x) := OwnC.only (OwnC.only o_12_X5 ha_13 (by first | exact NE_X5_X7.out | exact NE_X7_X5.out.symm)) hb9_13 (by first | exact NE_X5_X8.out | exact NE_X8_X5.out.symm)
     have o_13_X6 : OCEvent w_13 g1_5 n0y n0y (marksEvent (1 + n0x) n0y) := OCEvent.only (OCEvent.only o_12_X6 ha_13 (by first | exact NE_X6_X7.out | exact NE_X7_X6.out.symm)) hb9_13 (by first | exact NE_X6_X8.out | exact NE_X8_X6.out.symm)
     have o_13_X7 : OwnC w_13 g0_7 n0x c0_7 (marksI (1) n0x) := OwnC.only hx_13 hb9_13 (by first | exact NE_X7_X8.out | exact NE_X8_X7.out.symm)
     have o_13_X8 : OCEvent w_13 g1_7 zs0.length c1_7 (marksEvent (1 + n0x) zs0.length) := hy_13
     clear hx_13 hy_13 ha_13 hb9_13 jv ov_X8 kv_p0 kv_l1 kv_l2 kv_l3
     clear j_12 k_12_p0 l_12_p0 k_12_l1 l_12_l1 k_12_l2 l_12_l2 k_12_l3 c_12_l3_0 c_12_l3_1 c_12_l3_2 c_12_l3_3 c_12_l3_4 c_12_l3_5 c_12_l3_6 c_12_l3_7 c_12_l3_8 c_12_l3_9 c_12_l3_10 c_12_l3_11 c_12_l3_12 c_12_l3_13 l_12_l3 o_12_X5 o_12_X6 o_12_X7 o_12_X8 hb_12
     go_wp2_with fail
     refine (heldBakery_w (some ⟨g0_7, 0, none⟩) n0x c0_7 (some ⟨g1_7, 0, none⟩) zs0.length c1_7 a0_0 a0_1 a0_2 a0_3 a0_4 r0 r1 r2 r3 r4 r5 r6 (1) _ (by omega) (by omega) (by omega) (OwnC.reads (by with_reducible (repeat (first | assumption | apply OwnC.drewN | apply OwnC.drew | apply OwnC.alloc)))) (OCEvent.reads (by with_reducible (repeat (first | assumption | apply OCEvent.drewN | apply OCEvent.drew | apply OCEvent.alloc))))).mono ?_
     rintro _ w_14 ⟨rfl, hb_14⟩
     have j_14 : In w_4.heap.size w_4 w_14 := In.step (by (repeat (first | exact In.refl _ | assumption | apply In.alloc | apply In.drewN | apply In.drew | (refine In.step ?_ (by assumption))))) hb_14
     have k_14_p0 : Blk w_14 (b_p0) 35 #[.slice A0x n0x c0x, .int .i64 a0_0, .int .i64 a0_1, .int .i64 a0_2, .int .i64 a0_3, .int .i64 a0_4, .slice A0y n0y c0y, .int .i64 a0_5, .int .i64 a0_6, .int .i64 a0_7, .int .i64 a0_8, .int .i64 a0_9, .int .i64 a0_10, .int .i64 a0_11] := Blk.step (by (with_reducible (repeat (first | assumption | exact Blk.new' (by simp) | apply Blk.drewN | apply Blk.drew | apply Blk.alloc | (refine Blk.far ?_ (by (try simp) <;> omega) _))))) hb_14
     obtain ⟨c_14_p0_0, c_14_p0_1, c_14_p0_2, c_14_p0_3, c_14_p0_4, c_14_p0_5, c_14_p0_6, c_14_p0_7, c_14_p0_8, c_14_p0_9, c_14_p0_10, c_14_p0_11, c_14_p0_12, c_14_p0_13⟩ := cells14 k_14_p0
     have l_14_p0 := k_14_p0.lt
     have k_14_l1 : Blk w_14 (b_l1) 45 #[.slice (some ⟨g0_3, 0, none⟩) n0x c0_3, .int .i64 a0_0, .int .i64 a0_1, .int .i64 a0_2, .int .i64 a0_3, .int .i64 a0_4, .slice (some ⟨g1_3, 0, none⟩) zs0.length c1_3, .int .i64 r0, .int .i64 r1, .int .i64 r2, .int .i64 r3, .int .i64 r4, .int .i64 r5, .int .i64 r6] := Blk.step (by (with_reducible (repeat (first | assumption | exact Blk.new' (by simp) | apply Blk.drewN | apply Blk.drew | apply Blk.alloc | (refine Blk.far ?_ (by (try simp) <;> omega) _))))) hb_14
     have l_14_l1 := k_14_l1.lt
     have k_14_l2 : Blk w_14 (b_l2) 45 #[.slice (some ⟨g0_5, 0, none⟩) n0x n0x, .int .i64 a0_0, .int .i64 a0_1, .int .i64 a0_2, .int .i64 a0_3, .int .i64 a0_4, .slice (some ⟨g1_5, 0, none⟩) n0y n0y, .int .i64 a0_5, .int .i64 a0_6, .int .i64 a0_7, .int .i64 a0_8, .int .i64 a0_9, .int .i64 a0_10, .int .i64 a0_11] := Blk.step (by (with_reducible (repeat (first | assumption | exact Blk.new' (by simp) | apply Blk.drewN | apply Blk.drew | apply Blk.alloc | (refine Blk.far ?_ (by (try simp) <;> omega) _))))) hb_14
     have l_14_l2 := k_14_l2.lt
     have k_14_l3 : Blk w_14 (b_l3) 45 #[.slice (some ⟨g0_7, 0, none⟩) n0x c0_7, .int .i64 a0_0, .int .i64 a0_1, .int .i64 a0_2, .int .i64 a0_3, .int .i64 a0_4, .slice (some ⟨g1_7, 0, none⟩) zs0.length c1_7, .int .i64 r0, .int .i64 r1, .int .i64 r2, .int .i64 r3, .int .i64 r4, .int .i64 r5, .int .i64 r6] := Blk.step (by (with_reducible (repeat (first | assumption | exact Blk.new' (by simp) | apply Blk.drewN | apply Blk.drew | apply Blk.alloc | (refine Blk.far ?_ (by (try simp) <;> omega) _))))) hb_14
     have l_14_l3 := k_14_l3.lt
     have o_14_X5 : OwnC w_14 g0_5 n0x n0x (marksI (1) n0x) := OwnC.step (by with_reducible (repeat (first | assumption | apply OwnC.drewN | apply OwnC.drew | apply OwnC.alloc))) hb_14
     have o_14_X6 : OCEvent w_14 g1_5 n0y n0y (marksEvent (1 + n0x) n0y) := OCEvent.step (by with_reducible (repeat (first | assumption | apply OCEvent.drewN | apply OCEvent.drew | apply OCEvent.alloc))) hb_14
     have o_14_X7 : OwnC w_14 g0_7 n0x c0_7 (marksI (1) n0x) := OwnC.step (by with_reducible (repeat (first | assumption | apply OwnC.drewN | apply OwnC.drew | apply OwnC.alloc))) hb_14
     have o_14_X8 : OCEvent w_14 g1_7 zs0.length c1_7 (marksEvent (1 + n0x) zs0.length) := OCEvent.step (by with_reducible (repeat (first | assumption | apply OCEvent.drewN | apply OCEvent.drew | apply OCEvent.alloc))) hb_14
     clear j_13 k_13_p0 l_13_p0 k_13_l1 l_13_l1 k_13_l2 l_13_l2 k_13_l3 c_13_l3_0 c_13_l3_1 c_13_l3_2 c_13_l3_3 c_13_l3_4 c_13_l3_5 c_13_l3_6 c_13_l3_7 c_13_l3_8 c_13_l3_9 c_13_l3_10 c_13_l3_11 c_13_l3_12 c_13_l3_13 l_13_l3 o_13_X5 o_13_X6 o_13_X7 o_13_X8
     go_wp2_with fail
     refine (toBakery_w A0x n0x c0x z0x A0y n0y c0y z0y a0_0 a0_1 a0_2 a0_3 a0_4 a0_5 a0_6 a0_7 a0_8 a0_9 a0_10 a0_11 _ (by first | omega | (unfold maxLen; omega)) (by first | omega | (unfold maxLen; omega)) (R0x.out.in_ (IC.out.trans (by (repeat (first | exact In.refl _ | assumption | apply In.alloc | apply In.drewN | apply In.drew | (refine In.step ?_ (by assumption))))))) (R0y.out.in_ (IC.out.trans (by (repeat (first | exact In.refl _ | assumption | apply In.alloc | apply In.drewN | apply In.drew | (refine In.step ?_ (by assumption)))))))).mono ?_
     rintro _ w_15 ⟨g0_15, g1_15, rfl, ho0_15, hg0_15, ho1_15, hg1_15, hb_15⟩
     have NE_X5_X9 : Hid (g0_5 ≠ g0_15) := Lib.hid (by have h1 := hg0_15; (try simp at h1); have h2 := OwnC.lt o_14_X5; omega)
     have NE_X6_X9 : Hid (g1_5 ≠ g0_15) := Lib.hid (by have h1 := hg0_15; (try simp at h1); have h2 := OCEvent.lt o_14_X6; omega)
     have NE_X7_X9 : Hid (g0_7 ≠ g0_15) := Lib.hid (by have h1 := hg0_15; (try simp at h1); have h2 := OwnC.lt o_14_X7; omega)
     have NE_X8_X9 : Hid (g1_7 ≠ g0_15) := Lib.hid (by have h1 := hg0_15; (try simp at h1); have h2 := OCEvent.lt o_14_X8; omega)
     have GX_X9 : Hid (w_4.heap.size ≤ g0_15) := Lib.hid (by have h1 := hg0_15; (try simp at h1); have h2 := In.size j_14; omega)
     have o_15_X9 : OwnC w_15 g0_15 n0x n0x z0x := ho0_15
     clear ho0_15 hg0_15
     have NE_X5_X10 : Hid (g0_5 ≠ g1_15) := Lib.hid (by have h1 := hg1_15; (try simp at h1); have h2 := OwnC.lt o_14_X5; omega)
     have NE_X6_X10 : Hid (g1_5 ≠ g1_15) := Lib.hid (by have h1 := hg1_15; (try simp at h1); have h2 := OCEvent.lt o_14_X6; omega)
     have NE_X7_X10 : Hid (g0_7 ≠ g1_15) := Lib.hid (by have h1 := hg1_15; (try simp at h1); have h2 := OwnC.lt o_14_X7; omega)
     have NE_X8_X10 : Hid (g1_7 ≠ g1_15) := Lib.hid (by have h1 := hg1_15; (try simp at h1); have h2 := OCEvent.lt o_14_X8; omega)
     have NE_X9_X10 : Hid (g0_15 ≠ g1_15) := Lib.hid (ne_IE o_15_X9 ho1_15)
     have GX_X10 : Hid (w_4.heap.size ≤ g1_15) := Lib.hid (by have h1 := hg1_15; (try simp at h1); have h2 := In.size j_14; omega)
     have o_15_X10 : OCEvent w_15 g1_15 n0y n0y z0y := ho1_15
     clear ho1_15 hg1_15
     have j_15 : In w_4.heap.size w_4 w_15 := In.step (by (repeat (first | exact In.refl _ | assumption | apply In.alloc | apply In.drewN | apply In.drew | (refine In.step ?_ (by assumption))))) hb_15
     have k_15_p0 : Blk w_15 (b_p0) 35 #[.slice A0x n0x c0x, .int .i64 a0_0, .int .i64 a0_1, .int .i64 a0_2, .int .i64 a0_3, .int .i64 a0_4, .slice A0y n0y c0y, .int .i64 a0_5, .int .i64 a0_6, .int .i64 a0_7, .int .i64 a0_8, .int .i64 a0_9, .int .i64 a0_10, .int .i64 a0_11] := Blk.step (by (with_reducible (repeat (first | assumption | exact Blk.new' (by simp) | apply Blk.drewN | apply Blk.drew | apply Blk.alloc | (refine Blk.far ?_ (by (try simp) <;> omega) _))))) hb_15
     have l_15_p0 := k_15_p0.lt
     have k_15_l1 : Blk w_15 (b_l1) 45 #[.slice (some ⟨g0_3, 0, none⟩) n0x c0_3, .int .i64 a0_0, .int .i64 a0_1, .int .i64 a0_2, .int .i64 a0_3, .int .i64 a0_4, .slice (some ⟨g1_3, 0, none⟩) zs0.length c1_3, .int .i64 r0, .int .i64 r1, .int .i64 r2, .int .i64 r3, .int .i64 r4, .int .i64 r5, .int .i64 r6] := Blk.step (by (with_reducible (repeat (first | assumption | exact Blk.new' (by simp) | apply Blk.drewN | apply Blk.drew | apply Blk.alloc | (refine Blk.far ?_ (by (try simp) <;> omega) _))))) hb_15
     have l_15_l1 := k_15_l1.lt
     have k_15_l2 : Blk w_15 (b_l2) 45 #[.slice (some ⟨g0_5, 0, none⟩) n0x n0x, .int .i64 a0_0, .int .i64 a0_1, .int .i64 a0_2, .int .i64 a0_3, .int .i64 a0_4, .slice (some ⟨g1_5, 0, none⟩) n0y n0y, .int .i64 a0_5, .int .i64 a0_6, .int .i64 a0_7, .int .i64 a0_8, .int .i64 a0_9, .int .i64 a0_10, .int .i64 a0_11] := Blk.step (by (with_reducible (repeat (first | assumption | exact Blk.new' (by simp) | apply Blk.drewN | apply Blk.drew | apply Blk.alloc | (refine Blk.far ?_ (by (try simp) <;> omega) _))))) hb_15
     have l_15_l2 := k_15_l2.lt
     have k_15_l3 : Blk w_15 (b_l3) 45 #[.slice (some ⟨g0_7, 0, none⟩) n0x c0_7, .int .i64 a0_0, .int .i64 a0_1, .int .i64 a0_2, .int .i64 a0_3, .int .i64 a0_4, .slice (some ⟨g1_7, 0, none⟩) zs0.length c1_7, .int .i64 r0, .int .i64 r1, .int .i64 r2, .int .i64 r3, .int .i64 r4, .int .i64 r5, .int .i64 r6] := Blk.step (by (with_reducible (repeat (first | assumption | exact Blk.new' (by simp) | apply Blk.drewN | apply Blk.drew | apply Blk.alloc | (refine Blk.far ?_ (by (try simp) <;> omega) _))))) hb_15
     have l_15_l3 := k_15_l3.lt
     have o_15_X5 : OwnC w_15 g0_5 n0x n0x (marksI (1) n0x) := OwnC.step (by with_reducible (repeat (first | assumption | apply OwnC.drewN | apply OwnC.drew | apply OwnC.alloc))) hb_15
     have o_15_X6 : OCEvent w_15 g1_5 n0y n0y (marksEvent (1 + n0x) n0y) := OCEvent.step (by with_reducible (repeat (first | assumption | apply OCEvent.drewN | apply OCEvent.drew | apply OCEvent.alloc))) hb_15
     have o_15_X7 : OwnC w_15 g0_7 n0x c0_7 (marksI (1) n0x) := OwnC.step (by with_reducible (repeat (first | assumption | apply OwnC.drewN | apply OwnC.drew | apply OwnC.alloc))) hb_15
     have o_15_X8 : OCEvent w_15 g1_7 zs0.length c1_7 (marksEvent (1 + n0x) zs0.length) := OCEvent.step (by with_reducible (repeat (first | assumption | apply OCEvent.drewN | apply OCEvent.drew | apply OCEvent.alloc))) hb_15
     clear j_14 k_14_p0 c_14_p0_0 c_14_p0_1 c_14_p0_2 c_14_p0_3 c_14_p0_4 c_14_p0_5 c_14_p0_6 c_14_p0_7 c_14_p0_8 c_14_p0_9 c_14_p0_10 c_14_p0_11 c_14_p0_12 c_14_p0_13 l_14_p0 k_14_l1 l_14_l1 k_14_l2 l_14_l2 k_14_l3 l_14_l3 o_14_X5 o_14_X6 o_14_X7 o_14_X8 hb_14
     as_aux_lemma =>
      go_wp2_with fail
      refine (HiC.out g0_15 n0x g1_15 n0y _ (OwnC.reads (by with_reducible (repeat (first | assumption | apply OwnC.drewN | apply OwnC.drew | apply OwnC.alloc)))) (OCEvent.reads (by with_reducible (repeat (first | assumption | apply OCEvent.drewN | apply OCEvent.drew | apply OCEvent.alloc))))).mono ?_
      rintro _ w_16 ⟨g0_16, c0_16, g1_16, c1_16, rfl, ho0_16, hg0_16, ho1_16, hg1_16, hb_16⟩
      have NE_X5_X11 : Hid (g0_5 ≠ g0_16) := Lib.hid (by have h1 := hg0_16; (try simp at h1); have h2 := OwnC.lt o_15_X5; omega)
      have NE_X6_X11 : Hid (g1_5 ≠ g0_16) := Lib.hid (by have h1 := hg0_16; (try simp at h1); have h2 := OCEvent.lt o_15_X6; omega)
      have NE_X7_X11 : Hid (g0_7 ≠ g0_16) := Lib.hid (by have h1 := hg0_16; (try simp at h1); have h2 := OwnC.lt o_15_X7; omega)
      have NE_X8_X11 : Hid (g1_7 ≠ g0_16) := Lib.hid (by have h1 := hg0_16; (try simp at h1); have h2 := OCEvent.lt o_15_X8; omega)
      have GX_X11 : Hid (w_4.heap.size ≤ g0_16) := Lib.hid (by have h1 := hg0_16; (try simp at h1); have h2 := In.size j_15; omega)
      have o_16_X11 : OwnC w_16 g0_16 n0x c0_16 z0x := ho0_16
      clear ho0_16 hg0_16
      have NE_X5_X12 : Hid (g0_5 ≠ g1_16) := Lib.hid (by have h1 := hg1_16; (try simp at h1); have h2 := OwnC.lt o_15_X5; omega)
      have NE_X6_X12 : Hid (g1_5 ≠ g1_16) := Lib.hid (by have h1 := hg1_16; (try simp at h1); have h2 := OCEvent.lt o_15_X6; omega)
      have NE_X7_X12 : Hid (g0_7 ≠ g1_16) := Lib.hid (by have h1 := hg1_16; (try simp at h1); have h2 := OwnC.lt o_15_X7; omega)
      have NE_X8_X12 : Hid (g1_7 ≠ g1_16) := Lib.hid (by have h1 := hg1_16; (try simp at h1); have h2 := OCEvent.lt o_15_X8; omega)
      have NE_X11_X12 : Hid (g0_16 ≠ g1_16) := Lib.hid (ne_IE o_16_X11 ho1_16)
      have GX_X12 : Hid (w_4.heap.size ≤ g1_16) := Lib.hid (by have h1 := hg1_16; (try simp at h1); have h2 := In.size j_15; omega)
      have o_16_X12 : OCEvent w_16 g1_16 zs0.length c1_16 zs0 := ho1_16
      clear ho1_16 hg1_16
      have j_16 : In w_4.heap.size w_4 w_16 := In.step (by (repeat (first | exact In.refl _ | assumption | apply In.alloc | apply In.drewN | apply In.drew | (refine In.step ?_ (by assumption))))) hb_16
      have k_16_p0 : Blk w_16 (b_p0) 35 #[.slice A0x n0x c0x, .int .i64 a0_0, .int .i64 a0_1, .int .i64 a0_2, .int .i64 a0_3, .int .i64 a0_4, .slice A0y n0y c0y, .int .i64 a0_5, .int .i64 a0_6, .int .i64 a0_7, .int .i64 a0_8, .int .i64 a0_9, .int .i64 a0_10, .int .i64 a0_11] := Blk.step (by (with_reducible (repeat (first | assumption | exact Blk.new' (by simp) | apply Blk.drewN | apply Blk.drew | apply Blk.alloc | (refine Blk.far ?_ (by (try simp) <;> omega) _))))) hb_16
      have l_16_p0 := k_16_p0.lt
      have k_16_l1 : Blk w_16 (b_l1) 45 #[.slice (some ⟨g0_3, 0, none⟩) n0x c0_3, .int .i64 a0_0, .int .i64 a0_1, .int .i64 a0_2, .int .i64 a0_3, .int .i64 a0_4, .slice (some ⟨g1_3, 0, none⟩) zs0.length c1_3, .int .i64 r0, .int .i64 r1, .int .i64 r2, .int .i64 r3, .int .i64 r4, .int .i64 r5, .int .i64 r6] := Blk.step (by (with_reducible (repeat (first | assumption | exact Blk.new' (by simp) | apply Blk.drewN | apply Blk.drew | apply Blk.alloc | (refine Blk.far ?_ (by (try simp) <;> omega) _))))) hb_16
      obtain ⟨c_16_l1_0, c_16_l1_1, c_16_l1_2, c_16_l1_3, c_16_l1_4, c_16_l1_5, c_16_l1_6, c_16_l1_7, c_16_l1_8, c_16_l1_9, c_16_l1_10, c_16_l1_11, c_16_l1_12, c_16_l1_13⟩ := cells14 k_16_l1
      have l_16_l1 := k_16_l1.lt
      have k_16_l2 : Blk w_16 (b_l2) 45 #[.slice (some ⟨g0_5, 0, none⟩) n0x n0x, .int .i64 a0_0, .int .i64 a0_1, .int .i64 a0_2, .int .i64 a0_3, .int .i64 a0_4, .slice (some ⟨g1_5, 0, none⟩) n0y n0y, .int .i64 a0_5, .int .i64 a0_6, .int .i64 a0_7, .int .i64 a0_8, .int .i64 a0_9, .int .i64 a0_10, .int .i64 a0_11] := Blk.step (by (with_reducible (repeat (first | assumption | exact Blk.new' (by simp) | apply Blk.drewN | apply Blk.drew | apply Blk.alloc | (refine Blk.far ?_ (by (try simp) <;> omega) _))))) hb_16
      have l_16_l2 := k_16_l2.lt
      have k_16_l3 : Blk w_16 (b_l3) 45 #[.slice (some ⟨g0_7, 0, none⟩) n0x c0_7, .int .i64 a0_0, .int .i64 a0_1, .int .i64 a0_2, .int .i64 a0_3, .int .i64 a0_4, .slice (some ⟨g1_7, 0, none⟩) zs0.length c1_7, .int .i64 r0, .int .i64 r1, .int .i64 r2, .int .i64 r3, .int .i64 r4, .int .i64 r5, .int .i64 r6] := Blk.step (by (with_reducible (repeat (first | assumption | exact Blk.new' (by simp) | apply Blk.drewN | apply Blk.drew | apply Blk.alloc | (refine Blk.far ?_ (by (try simp) <;> omega) _))))) hb_16
      have l_16_l3 := k_16_l3.lt
      have o_16_X5 : OwnC w_16 g0_5 n0x n0x (marksI (1) n0x) := OwnC.step (by with_reducible (repeat (first | assumption | apply OwnC.drewN | apply OwnC.drew | apply OwnC.alloc))) hb_16
      have o_16_X6 : OCEvent w_16 g1_5 n0y n0y (marksEvent (1 + n0x) n0y) := OCEvent.step (by with_reducible (repeat (first | assumption | apply OCEvent.drewN | apply OCEvent.drew | apply OCEvent.alloc))) hb_16
      have o_16_X7 : OwnC w_16 g0_7 n0x c0_7 (marksI (1) n0x) := OwnC.step (by with_reducible (repeat (first | assumption | apply OwnC.drewN | apply OwnC.drew | apply OwnC.alloc))) hb_16
      have o_16_X8 : OCEvent w_16 g1_7 zs0.length c1_7 (marksEvent (1 + n0x) zs0.length) := OCEvent.step (by with_reducible (repeat (first | assumption | apply OCEvent.drewN | apply OCEvent.drew | apply OCEvent.alloc))) hb_16
      clear j_15 k_15_p0 l_15_p0 k_15_l1 l_15_l1 k_15_l2 l_15_l2 k_15_l3 l_15_l3 o_15_X5 o_15_X6 o_15_X7 o_15_X8 o_15_X9 o_15_X10 hb_15
      go_wp2_with fail
      obtain ⟨b_l4, hbx_l4⟩ : ∃ b, b = w_16.heap.size := ⟨_, rfl⟩
      rw [← hbx_l4]
      have hb_17 : Below w_16.heap.size w_16 (w_16.alloc (.cells #[.slice (some ⟨g0_16, 0, none⟩) n0x c0_16, .int .i64 a0_0, .int .i64 a0_1, .int .i64 a0_2, .int .i64 a0_3, .int .i64 a0_4, .slice (some ⟨g1_16, 0, none⟩) zs0.length c1_16, .int .i64 r0, .int .i64 r1, .int .i64 r2, .int .i64 r3, .int .i64 r4, .int .i64 r5, .int .i64 r6] 45)) := (Below.refl _ _).alloc (Nat.le_refl _) _
      have kk_17 : Blk (w_16.alloc (.cells #[.slice (some ⟨g0_16, 0, none⟩) n0x c0_16, .int .i64 a0_0, .int .i64 a0_1, .int .i64 a0_2, .int .i64 a0_3, .int .i64 a0_4, .slice (some ⟨g1_16, 0, none⟩) zs0.length c1_16, .int .i64 r0, .int .i64 r1, .int .i64 r2, .int .i64 r3, .int .i64 r4, .int .i64 r5, .int .i64 r6] 45)) b_l4 45 #[.slice (some ⟨g0_16, 0, none⟩) n0x c0_16, .int .i64 a0_0, .int .i64 a0_1, .int .i64 a0_2, .int .i64 a0_3, .int .i64 a0_4, .slice (some ⟨g1_16, 0, none⟩) zs0.length c1_16, .int .i64 r0, .int .i64 r1, .int .i64 r2, .int .i64 r3, .int .i64 r4, .int .i64 r5, .int .i64 r6] := Blk.new' hbx_l4
      clear hbx_l4
      generalize (w_16.alloc (.cells #[.slice (some ⟨g0_16, 0, none⟩) n0x c0_16, .int .i64 a0_0, .int .i64 a0_1, .int .i64 a0_2, .int .i64 a0_3, .int .i64 a0_4, .slice (some ⟨g1_16, 0, none⟩) zs0.length c1_16, .int .i64 r0, .int .i64 r1, .int .i64 r2, .int .i64 r3, .int .i64 r4, .int .i64 r5, .int .i64 r6] 45)) = w_17 at *
      have j_17 : In w_4.heap.size w_4 w_17 := In.step (by (repeat (first | exact In.refl _ | assumption | apply In.alloc | apply In.drewN | apply In.drew | (refine In.step ?_ (by assumption))))) hb_17
      have k_17_p0 : Blk w_17 (b_p0) 35 #[.slice A0x n0x c0x, .int .i64 a0_0, .int .i64 a0_1, .int .i64 a0_2, .int .i64 a0_3, .int .i64 a0_4, .slice A0y n0y c0y, .int .i64 a0_5, .int .i64 a0_6, .int .i64 a0_7, .int .i64 a0_8, .int .i64 a0_9, .int .i64 a0_10, .int .i64 a0_11] := Blk.step (by (with_reducible (repeat (first | assumption | exact Blk.new' (by simp) | apply Blk.drewN | apply Blk.drew | apply Blk.alloc | (refine Blk.far ?_ (by (try simp) <;> omega) _))))) hb_17
      have l_17_p0 := k_17_p0.lt
      have k_17_l1 : Blk w_17 (b_l1) 45 #[.slice (some ⟨g0_3, 0, none⟩) n0x c0_3, .int .i64 a0_0, .int .i64 a0_1, .int .i64 a0_2, .int .i64 a0_3, .int .i64 a0_4, .slice (some ⟨g1_3, 0, none⟩) zs0.length c1_3, .int .i64 r0, .int .i64 r1, .int .i64 r2, .int .i64 r3, .int .i64 r4, .int .i64 r5, .int .i64 r6] := Blk.step (by (with_reducible (repeat (first | assumption | exact Blk.new' (by simp) | apply Blk.drewN | apply Blk.drew | apply Blk.alloc | (refine Blk.far ?_ (by (try simp) <;> omega) _))))) hb_17
      obtain ⟨c_17_l1_0, c_17_l1_1, c_17_l1_2, c_17_l1_3, c_17_l1_4, c_17_l1_5, c_17_l1_6, c_17_l1_7, c_17_l1_8, c_17_l1_9, c_17_l1_10, c_17_l1_11, c_17_l1_12, c_17_l1_13⟩ := cells14 k_17_l1
      have l_17_l1 := k_17_l1.lt
      have k_17_l2 : Blk w_17 (b_l2) 45 #[.slice (some ⟨g0_5, 0, none⟩) n0x n0x, .int .i64 a0_0, .int .i64 a0_1, .int .i64 a0_2, .int .i64 a0_3, .int .i64 a0_4, .slice (some ⟨g1_5, 0, none⟩) n0y n0y, .int .i64 a0_5, .int .i64 a0_6, .int .i64 a0_7, .int .i64 a0_8, .int .i64 a0_9, .int .i64 a0_10, .int .i64 a0_11] := Blk.step (by (with_reducible (repeat (first | assumption | exact Blk.new' (by simp) | apply Blk.drewN | apply Blk.drew | apply Blk.alloc | (refine Blk.far ?_ (by (try simp) <;> omega) _))))) hb_17
      have l_17_l2 := k_17_l2.lt
      have k_17_l3 : Blk w_17 (b_l3) 45 #[.slice (some ⟨g0_7, 0, none⟩) n0x c0_7, .int .i64 a0_0, .int .i64 a0_1, .int .i64 a0_2, .int .i64 a0_3, .int .i64 a0_4, .slice (some ⟨g1_7, 0, none⟩) zs0.length c1_7, .int .i64 r0, .int .i64 r1, .int .i64 r2, .int .i64 r3, .int .i64 r4, .int .i64 r5, .int .i64 r6] := Blk.step (by (with_reducible (repeat (first | assumption | exact Blk.new' (by simp) | apply Blk.drewN | apply Blk.drew | apply Blk.alloc | (refine Blk.far ?_ (by (try simp) <;> omega) _))))) hb_17
      have l_17_l3 := k_17_l3.lt
      have k_17_l4 : Blk w_17 (b_l4) 45 #[.slice (some ⟨g0_16, 0, none⟩) n0x c0_16, .int .i64 a0_0, .int .i64 a0_1, .int .i64 a0_2, .int .i64 a0_3, .int .i64 a0_4, .slice (some ⟨g1_16, 0, none⟩) zs0.length c1_16, .int .i64 r0, .int .i64 r1, .int .i64 r2, .int .i64 r3, .int .i64 r4, .int .i64 r5, .int .i64 r6] := kk_17
      obtain ⟨c_17_l4_0, c_17_l4_1, c_17_l4_2, c_17_l4_3, c_17_l4_4, c_17_l4_5, c_17_l4_6, c_17_l4_7, c_17_l4_8, c_17_l4_9, c_17_l4_10, c_17_l4_11, c_17_l4_12, c_17_l4_13⟩ := cells14 k_17_l4
      have l_17_l4 := k_17_l4.lt
      have o_17_X5 : OwnC w_17 g0_5 n0x n0x (marksI (1) n0x) := OwnC.step (by with_reducible (repeat (first | assumption | apply OwnC.drewN | apply OwnC.drew | apply OwnC.alloc))) hb_17
      have o_17_X6 : OCEvent w_17 g1_5 n0y n0y (marksEvent (1 + n0x) n0y) := OCEvent.step (by with_reducible (repeat (first | assumption | apply OCEvent.drewN | apply OCEvent.drew | apply OCEvent.alloc))) hb_17
      have o_17_X7 : OwnC w_17 g0_7 n0x c0_7 (marksI (1) n0x) := OwnC.step (by with_reducible (repeat (first | assumption | apply OwnC.drewN | apply OwnC.drew | apply OwnC.alloc))) hb_17
      have o_17_X8 : OCEvent w_17 g1_7 zs0.length c1_7 (marksEvent (1 + n0x) zs0.length) := OCEvent.step (by with_reducible (repeat (first | assumption | apply OCEvent.drewN | apply OCEvent.drew | apply OCEvent.alloc))) hb_17
      have o_17_X11 : OwnC w_17 g0_16 n0x c0_16 z0x := OwnC.step (by with_reducible (repeat (first | assumption | apply OwnC.drewN | apply OwnC.drew | apply OwnC.alloc))) hb_17
      have o_17_X12 : OCEvent w_17 g1_16 zs0.length c1_16 zs0 := OCEvent.step (by with_reducible (repeat (first | assumption | apply OCEvent.drewN | apply OCEvent.drew | apply OCEvent.alloc))) hb_17
      clear j_16 k_16_p0 l_16_p0 k_16_l1 c_16_l1_0 c_16_l1_1 c_16_l1_2 c_16_l1_3 c_16_l1_4 c_16_l1_5 c_16_l1_6 c_16_l1_7 c_16_l1_8 c_16_l1_9 c_16_l1_10 c_16_l1_11 c_16_l1_12 c_16_l1_13 l_16_l1 k_16_l2 l_16_l2 k_16_l3 l_16_l3 o_16_X5 o_16_X6 o_16_X7 o_16_X8 o_16_X11 o_16_X12 hb_16
      clear kk_17
      go_wp2_with fail
      refine (eqBakery_w (some ⟨g0_16, 0, none⟩) (some ⟨g0_3, 0, none⟩) n0x c0_16 c0_3 z0x (some ⟨g1_16, 0, none⟩) (some ⟨g1_3, 0, none⟩) zs0.length c1_16 c1_3 zs0 a0_0 a0_1 a0_2 a0_3 a0_4 r0 r1 r2 r3 r4 r5 r6 _ (by first | omega | (unfold maxLen; omega)) (by first | omega | (unfold maxLen; omega)) (OwnC.reads (by with_reducible (repeat (first | assumption | apply OwnC.drewN | apply OwnC.drew | apply OwnC.alloc)))) (HW0.out.in_ (by (repeat (first | exact In.refl _ | assumption | apply In.alloc | apply In.drewN | apply In.drew | (refine In.step ?_ (by assumption)))))) (OCEvent.reads (by with_reducible (repeat (first | assumption | apply OCEvent.drewN | apply OCEvent.drew | apply OCEvent.alloc)))) (HW1.out.in_ (by (repeat (first | exact In.refl _ | assumption | apply In.alloc | apply In.drewN | apply In.drew | (refine In.step ?_ (by assumption))))))).mono ?_
      rintro _ w_18 ⟨rfl, hb_18⟩
      have j_18 : In w_4.heap.size w_4 w_18 := In.step (by (repeat (first | exact In.refl _ | assumption | apply In.alloc | apply In.drewN | apply In.drew | (refine In.step ?_ (by assumption))))) hb_18
      have k_18_p0 : Blk w_18 (b_p0) 35 #[.slice A0x n0x c0x, .int .i64 a0_0, .int .i64 a0_1, .int .i64 a0_2, .int .i64 a0_3, .int .i64 a0_4, .slice A0y n0y c0y, .int .i64 a0_5, .int .i64 a0_6, .int .i64 a0_7, .int .i64 a0_8, .int .i64 a0_9, .int .i64 a0_10, .int .i64 a0_11] := Blk.step (by (with_reducible (repeat (first | assumption | exact Blk.new' (by simp) | apply Blk.drewN | apply Blk.drew | apply Blk.alloc | (refine Blk.far ?_ (by (try simp) <;> omega) _))))) hb_18
      have l_18_p0 := k_18_p0.lt
      have k_18_l1 : Blk w_18 (b_l1) 45 #[.slice (some ⟨g0_3, 0, none⟩) n0x c0_3, .int .i64 a0_0, .int .i64 a0_1, .int .i64 a0_2, .int .i64 a0_3, .int .i64 a0_4, .slice (some ⟨g1_3, 0, none⟩) zs0.length c1_3, .int .i64 r0, .int .i64 r1, .int .i64 r2, .int .i64 r3, .int .i64 r4, .int .i64 r5, .int .i64 r6] := Blk.step (by (with_reducible (repeat (first | assumption | exact Blk.new' (by simp) | apply Blk.drewN | apply Blk.drew | apply Blk.alloc | (refine Blk.far ?_ (by (try simp) <;> omega) _))))) hb_18
      have l_18_l1 := k_18_l1.lt
      have k_18_l2 : Blk w_18 (b_l2) 45 #[.slice (some ⟨g0_5, 0, none⟩) n0x n0x, .int .i64 a0_0, .int .i64 a0_1, .int .i64 a0_2, .int .i64 a0_3, .int .i64 a0_4, .slice (some ⟨g1_5, 0, none⟩) n0y n0y, .int .i64 a0_5, .int .i64 a0_6, .int .i64 a0_7, .int .i64 a0_8, .int .i64 a0_9, .int .i64 a0_10, .int .i64 a0_11] := Blk.step (by (with_reducible (repeat (first | assumption | exact Blk.new' (by simp) | apply Blk.drewN | apply Blk.drew | apply Blk.alloc | (refine Blk.far ?_ (by (try simp) <;> omega) _))))) hb_18
      have l_18_l2 := k_18_l2.lt
      have k_18_l3 : Blk w_18 (b_l3) 45 #[.slice (some ⟨g0_7, 0, none⟩) n0x c0_7, .int .i64 a0_0, .int .i64 a0_1, .int .i64 a0_2, .int .i64 a0_3, .int .i64 a0_4, .slice (some ⟨g1_7, 0, none⟩) zs0.length c1_7, .int .i64 r0, .int .i64 r1, .int .i64 r2, .int .i64 r3, .int .i64 r4, .int .i64 r5, .int .i64 r6] := Blk.step (by (with_reducible (repeat (first | assumption | exact Blk.new' (by simp) | apply Blk.drewN | apply Blk.drew | apply Blk.alloc | (refine Blk.far ?_ (by (try simp) <;> omega) _))))) hb_18
      obtain ⟨c_18_l3_0, c_18_l3_1, c_18_l3_2, c_18_l3_3, c_18_l3_4, c_18_l3_5, c_18_l3_6, c_18_l3_7, c_18_l3_8, c_18_l3_9, c_18_l3_10, c_18_l3_11, c_18_l3_12, c_18_l3_13⟩ := cells14 k_18_l3
      have l_18_l3 := k_18_l3.lt
      have k_18_l4 : Blk w_18 (b_l4) 45 #[.slice (some ⟨g0_16, 0, none⟩) n0x c0_16, .int .i64 a0_0, .int .i64 a0_1, .int .i64 a0_2, .int .i64 a0_3, .int .i64 a0_4, .slice (some ⟨g1_16, 0, none⟩) zs0.length c1_16, .int .i64 r0, .int .i64 r1, .int .i64 r2, .int .i64 r3, .int .i64 r4, .int .i64 r5, .int .i64 r6] := Blk.step (by (with_reducible (repeat (first | assumption | exact Blk.new' (by simp) | apply Blk.drewN | apply Blk.drew | apply Blk.alloc | (refine Blk.far ?_ (by (try simp) <;> omega) _))))) hb_18
      have l_18_l4 := k_18_l4.lt
      have o_18_X5 : OwnC w_18 g0_5 n0x n0x (marksI (1) n0x) := OwnC.step (by with_reducible (repeat (first | assumption | apply OwnC.drewN | apply OwnC.drew | apply OwnC.alloc))) hb_18
      have o_18_X6 : OCEvent w_18 g1_5 n0y n0y (marksEvent (1 + n0x) n0y) := OCEvent.step (by with_reducible (repeat (first | assumption | apply OCEvent.drewN | apply OCEvent.drew | apply OCEvent.alloc))) hb_18
      have o_18_X7 : OwnC w_18 g0_7 n0x c0_7 (marksI (1) n0x) := OwnC.step (by with_reducible (repeat (first | assumption | apply OwnC.drewN | apply OwnC.drew | apply OwnC.alloc))) hb_18
      have o_18_X8 : OCEvent w_18 g1_7 zs0.length c1_7 (marksEvent (1 + n0x) zs0.length) := OCEvent.step (by with_reducible (repeat (first | assumption | apply OCEvent.drewN | apply OCEvent.drew | apply OCEvent.alloc))) hb_18
      have o_18_X11 : OwnC w_18 g0_16 n0x c0_16 z0x := OwnC.step (by with_reducible (repeat (first | assumption | apply OwnC.drewN | apply OwnC.drew | apply OwnC.alloc))) hb_18
      have o_18_X12 : OCEvent w_18 g1_16 zs0.length c1_16 zs0 := OCEvent.step (by with_reducible (repeat (first | assumption | apply OCEvent.drewN | apply OCEvent.drew | apply OCEvent.alloc))) hb_18
      clear j_17 k_17_p0 l_17_p0 k_17_l1 c_17_l1_0 c_17_l1_1 c_17_l1_2 c_17_l1_3 c_17_l1_4 c_17_l1_5 c_17_l1_6 c_17_l1_7 c_17_l1_8 c_17_l1_9 c_17_l1_10 c_17_l1_11 c_17_l1_12 c_17_l1_13 l_17_l1 k_17_l2 l_17_l2 k_17_l3 l_17_l3 k_17_l4 c_17_l4_0 c_17_l4_1 c_17_l4_2 c_17_l4_3 c_17_l4_4 c_17_l4_5 c_17_l4_6 c_17_l4_7 c_17_l4_8 c_17_l4_9 c_17_l4_10 c_17_l4_11 c_17_l4_12 c_17_l4_13 l_17_l4 o_17_X5 o_17_X6 o_17_X7 o_17_X8 o_17_X11 o_17_X12 hb_17
      as_aux_lemma =>
       go_wp2_with fail
       refine (heldBakery_w (some ⟨g0_7, 0, none⟩) n0x c0_7 (some ⟨g1_7, 0, none⟩) zs0.length c1_7 a0_0 a0_1 a0_2 a0_3 a0_4 r0 r1 r2 r3 r4 r5 r6 (1) _ (by omega) (by omega) (by omega) (OwnC.reads (by with_reducible (repeat (first | assumption | apply OwnC.drewN | apply OwnC.drew | apply OwnC.alloc)))) (OCEvent.reads (by with_reducible (repeat (first | assumption | apply OCEvent.drewN | apply OCEvent.drew | apply OCEvent.alloc))))).mono ?_
       rintro _ w_19 ⟨rfl, hb_19⟩
       have j_19 : In w_4.heap.size w_4 w_19 := In.step (by (repeat (first | exact In.refl _ | assumption | apply In.alloc | apply In.drewN | apply In.drew | (refine In.step ?_ (by assumption))))) hb_19
       have k_19_p0 : Blk w_19 (b_p0) 35 #[.slice A0x n0x c0x, .int .i64 a0_0, .int .i64 a0_1, .int .i64 a0_2, .int .i64 a0_3, .int .i64 a0_4, .slice A0y n0y c0y, .int .i64 a0_5, .int .i64 a0_6, .int .i64 a0_7, .int .i64 a0_8, .int .i64 a0_9, .int .i64 a0_10, .int .i64 a0_11] := Blk.step (by (with_reducible (repeat (first | assumption | exact Blk.new' (by simp) | apply Blk.drewN | apply Blk.drew | apply Blk.alloc | (refine Blk.far ?_ (by (try simp) <;> omega) _))))) hb_19
       have l_19_p0 := k_19_p0.lt
       have k_19_l1 : Blk w_19 (b_l1) 45 #[.slice (some ⟨g0_3, 0, none⟩) n0x c0_3, .int .i64 a0_0, .int .i64 a0_1, .int .i64 a0_2, .int .i64 a0_3, .int .i64 a0_4, .slice (some ⟨g1_3, 0, none⟩) zs0.length c1_3, .int .i64 r0, .int .i64 r1, .int .i64 r2, .int .i64 r3, .int .i64 r4, .int .i64 r5, .int .i64 r6] := Blk.step (by (with_reducible (repeat (first | assumption | exact Blk.new' (by simp) | apply Blk.drewN | apply Blk.drew | apply Blk.alloc | (refine Blk.far ?_ (by (try simp) <;> omega) _))))) hb_19
       have l_19_l1 := k_19_l1.lt
       have k_19_l2 : Blk w_19 (b_l2) 45 #[.slice (some ⟨g0_5, 0, none⟩) n0x n0x, .int .i64 a0_0, .int .i64 a0_1, .int .i64 a0_2, .int .i64 a0_3, .int .i64 a0_4, .slice (some ⟨g1_5, 0, none⟩) n0y n0y, .int .i64 a0_5, .int .i64 a0_6, .int .i64 a0_7, .int .i64 a0_8, .int .i64 a0_9, .int .i64 a0_10, .int .i64 a0_11] := Blk.step (by (with_reducible (repeat (first | assumption | exact Blk.new' (by simp) | apply Blk.drewN | apply Blk.drew | apply Blk.alloc | (refine Blk.far ?_ (by (try simp) <;> omega) _))))) hb_19
       have l_19_l2 := k_19_l2.lt
       have k_19_l3 : Blk w_19 (b_l3) 45 #[.slice (some ⟨g0_7, 0, none⟩) n0x c0_7, .int .i64 a0_0, .int .i64 a0_1, .int .i64 a0_2, .int .i64 a0_3, .int .i64 a0_4, .slice (some ⟨g1_7, 0, none⟩) zs0.length c1_7, .int .i64 r0, .int .i64 r1, .int .i64 r2, .int .i64 r3, .int .i64 r4, .int .i64 r5, .int .i64 r6] := Blk.step (by (with_reducible (repeat (first | assumption | exact Blk.new' (by simp) | apply Blk.drewN | apply Blk.drew | apply Blk.alloc | (refine Blk.far ?_ (by (try simp) <;> omega) _))))) hb_19
       have l_19_l3 := k_19_l3.lt
       have k_19_l4 : Blk w_19 (b_l4) 45 #[.slice (some ⟨g0_16, 0, none⟩) n0x c0_16, .int .i64 a0_0, .int .i64 a0_1, .int .i64 a0_2, .int .i64 a0_3, .int .i64 a0_4, .slice (some ⟨g1_16, 0, none⟩) zs0.length c1_16, .int .i64 r0, .int .i64 r1, .int .i64 r2, .int .i64 r3, .int .i64 r4, .int .i64 r5, .int .i64 r6] := Blk.step (by (with_reducible (repeat (first | assumption | exact Blk.new' (by simp) | apply Blk.drewN | apply Blk.drew | apply Blk.alloc | (refine Blk.far ?_ (by (try simp) <;> omega) _))))) hb_19
       have l_19_l4 := k_19_l4.lt
       have o_19_X5 : OwnC w_19 g0_5 n0x n0x (marksI (1) n0x) := OwnC.step (by with_reducible (repeat (first | assumption | apply OwnC.drewN | apply OwnC.drew | apply OwnC.alloc))) hb_19
       have o_19_X6 : OCEvent w_19 g1_5 n0y n0y (marksEvent (1 + n0x) n0y) := OCEvent.step (by with_reducible (repeat (first | assumption | apply OCEvent.drewN | apply OCEvent.drew | apply OCEvent.alloc))) hb_19
       have o_19_X7 : OwnC w_19 g0_7 n0x c0_7 (marksI (1) n0x) := OwnC.step (by with_reducible (repeat (first | assumption | apply OwnC.drewN | apply OwnC.drew | apply OwnC.alloc))) hb_19
       have o_19_X8 : OCEvent w_19 g1_7 zs0.length c1_7 (marksEvent (1 + n0x) zs0.length) := OCEvent.step (by with_reducible (repeat (first | assumption | apply OCEvent.drewN | apply OCEvent.drew | apply OCEvent.alloc))) hb_19
       have o_19_X11 : OwnC w_19 g0_16 n0x c0_16 z0x := OwnC.step (by with_reducible (repeat (first | assumption | apply OwnC.drewN | apply OwnC.drew | apply OwnC.alloc))) hb_19
       have o_19_X12 : OCEvent w_19 g1_16 zs0.length c1_16 zs0 := OCEvent.step (by with_reducible (repeat (first | assumption | apply OCEvent.drewN | apply OCEvent.drew | apply OCEvent.alloc))) hb_19
       clear j_18 k_18_p0 l_18_p0 k_18_l1 l_18_l1 k_18_l2 l_18_l2 k_18_l3 c_18_l3_0 c_18_l3_1 c_18_l3_2 c_18_l3_3 c_18_l3_4 c_18_l3_5 c_18_l3_6 c_18_l3_7 c_18_l3_8 c_18_l3_9 c_18_l3_10 c_18_l3_11 c_18_l3_12 c_18_l3_13 l_18_l3 k_18_l4 l_18_l4 o_18_X5 o_18_X6 o_18_X7 o_18_X8 o_18_X11 o_18_X12 hb_18
       go_wp2
       go_ret
       exact (show Val _ _ _ _ from Val.mk' rfl (IC.out.trans (by (repeat (first | exact In.refl _ | assumption | apply In.alloc | apply In.drewN | apply In.drew | (refine In.step ?_ (by assumption)))))))
end Go.Proofs.Ytmcfghklfkmfkaa
