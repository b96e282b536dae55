/- The law of MostFlour. -/
import Derived.Test.YthadanmiomeehaaH36
import Derived.Test.YthadanmiomeehaaInv
import Derived.Test.YthadanmiomeehaaSDough
namespace Go.Proofs.Ythadanmiomeehaa
open Go.ChangeShapes Go.WideShapes Go.ChangeAt Go.RowKit
set_option linter.unusedVariables false
set_option linter.unusedSimpArgs false
def updf (f : Nat → Value) (k : Nat) (v : Value) : Nat → Value := fun j => if j = k then v else f j
def JIMostFloura (w0 : World) (a0 : Option Addr) (len0 : Nat) (cap0 : Nat) (z0 : List Int) (a1_0 : Int) (a1_1 : Int) (a1_2 : Int) (b_p1 : Nat) (b_p0 : Nat) (a : Act) (w : World) : Prop := (∃ f : Nat → Value, a = ⟨#[Value.agg #[Value.slice a0 len0 cap0], Value.agg #[Value.int IntKind.i64 a1_0, Value.int IntKind.i64 a1_1, Value.int IntKind.i64 a1_2], Value.pointer (some { block := b_p0, off := 0 }), Value.pointer (some { block := b_p1, off := 0 }), Value.bool false, Value.int IntKind.i64 (1048576 - ((len0 : Nat) : Int)), f 6, undef, undef, Value.agg #[Value.slice a0 len0 cap0], Value.int IntKind.i64 1048576, Value.int IntKind.i64 (1048576 - ((len0 : Nat) : Int)), Value.int IntKind.i64 (1048576 - ((len0 : Nat) : Int)), Value.bool (decide (1048576 - ((len0 : Nat) : Int) < 0)), f 14, f 15, f 16, f 17, f 18, undef, undef, undef, undef, undef, undef, undef, undef, undef, undef, undef, undef, undef, undef], []⟩) ∧ In w0.heap.size w0 w
def JFMostFloura (B : Nat) (a0 : Option Addr) (len0 : Nat) (cap0 : Nat) (z0 : List Int) (a1_0 : Int) (a1_1 : Int) (a1_2 : Int) (b_p1 : Nat) (b_p0 : Nat) : Nat → Act → World → Prop
  | 0, a, w => a.tmps[14]? = some (.agg #[.slice a0 len0 cap0])
  | 1, a, w => ∃ g, B ≤ g ∧ a.tmps[15]? = some (.agg #[.slice (some ⟨g, 0, none⟩) len0 len0]) ∧ OwnC w g (len0) len0 (z0.take len0)
  | 2, a, w => a.tmps[16]? = some (.agg #[.int .i64 a1_0, .int .i64 a1_1, .int .i64 a1_2])
  | 3, a, w => a.tmps[17]? = some (.agg #[.int .i64 a1_0, .int .i64 a1_1, .int .i64 a1_2])
  | 4, a, w => a.tmps[18]? = some (.int .i64 ((mostV len0 (z0.take len0) a1_0 a1_1 a1_2)))
  | 5, a, w => a.tmps[6]? = some (.int .i64 ((mostV len0 (z0.take len0) a1_0 a1_1 a1_2)))
  | _, _, _ => True
def JIMostFlourb (w0 : World) (a0 : Option Addr) (len0 : Nat) (cap0 : Nat) (z0 : List Int) (a1_0 : Int) (a1_1 : Int) (a1_2 : Int) (b_p1 : Nat) (b_p0 : Nat) (ha : Nat → Value) (g_3 : Nat) (b_l1 : Nat) (a : Act) (w : World) : Prop := (∃ f : Nat → Value, a = ⟨#[Value.agg #[Value.slice a0 len0 cap0], Value.agg #[Value.int IntKind.i64 a1_0, Value.int IntKind.i64 a1_1, Value.int IntKind.i64 a1_2], Value.pointer (some { block := b_p0, off := 0 }), Value.pointer (some { block := b_p1, off := 0 }), Value.bool false, Value.int IntKind.i64 (1048576 - ((len0 : Nat) : Int)), Value.int IntKind.i64 (mostV len0 (List.take len0 z0) a1_0 a1_1 a1_2), Value.pointer (some { block := b_l1, off := 0 }), f 8, Value.agg #[Value.slice a0 len0 cap0], Value.int IntKind.i64 1048576, Value.int IntKind.i64 (1048576 - ((len0 : Nat) : Int)), Value.int IntKind.i64 (1048576 - ((len0 : Nat) : Int)), Value.bool (decide (1048576 - ((len0 : Nat) : Int) < 0)), ha 14, ha 15, ha 16, ha 17, ha 18, Value.agg #[Value.slice a0 len0 cap0], Value.agg #[Value.slice (some { block := g_3, off := 0 }) len0 len0], f 21, f 22, f 23, f 24, undef, undef, undef, undef, undef, undef, undef, undef], []⟩) ∧ In w0.heap.size w0 w
def JFMostFlourb (B : Nat) (a0 : Option Addr) (len0 : Nat) (cap0 : Nat) (z0 : List Int) (a1_0 : Int) (a1_1 : Int) (a1_2 : Int) (b_p1 : Nat) (b_p0 : Nat) (ha : Nat → Value) (g_3 : Nat) (b_l1 : Nat) : Nat → Act → World → Prop
  | 0, a, w => a.tmps[21]? = some (.agg #[.slice (some ⟨g_3, 0, none⟩) len0 len0])
  | 1, a, w => a.tmps[22]? = some (.agg #[.int .i64 a1_0, .int .i64 a1_1, .int .i64 a1_2])
  | 2, a, w => a.tmps[23]? = some (.agg #[.int .i64 a1_0, .int .i64 a1_1, .int .i64 a1_2])
  | 3, a, w => a.tmps[24]? = some (.int .i64 ((mostV len0 (z0.take len0) a1_0 a1_1 a1_2)))
  | 4, a, w => a.tmps[8]? = some (.int .i64 ((mostV len0 (z0.take len0) a1_0 a1_1 a1_2)))
  | _, _, _ => True
def JIMostFlourc (w0 : World) (a0 : Option Addr) (len0 : Nat) (cap0 : Nat) (z0 : List Int) (a1_0 : Int) (a1_1 : Int) (a1_2 : Int) (b_p1 : Nat) (b_p0 : Nat) (ha : Nat → Value) (g_3 : Nat) (b_l1 : Nat) (hb : Nat → Value) (a : Act) (w : World) : Prop := (∃ f : Nat → Value, a = ⟨#[Value.agg #[Value.slice a0 len0 cap0], Value.agg #[Value.int IntKind.i64 a1_0, Value.int IntKind.i64 a1_1, Value.int IntKind.i64 a1_2], Value.pointer (some { block := b_p0, off := 0 }), Value.pointer (some { block := b_p1, off := 0 }), Value.bool false, Value.int IntKind.i64 (1048576 - ((len0 : Nat) : Int)), Value.int IntKind.i64 (mostV len0 (List.take len0 z0) a1_0 a1_1 a1_2), Value.pointer (some { block := b_l1, off := 0 }), Value.int IntKind.i64 (mostV len0 (List.take len0 z0) a1_0 a1_1 a1_2), Value.agg #[Value.slice a0 len0 cap0], Value.int IntKind.i64 1048576, Value.int IntKind.i64 (1048576 - ((len0 : Nat) : Int)), Value.int IntKind.i64 (1048576 - ((len0 : Nat) : Int)), Value.bool (decide (1048576 - ((len0 : Nat) : Int) < 0)), ha 14, ha 15, ha 16, ha 17, ha 18, Value.agg #[Value.slice a0 len0 cap0], Value.agg #[Value.slice (some { block := g_3, off := 0 }) len0 len0], hb 21, hb 22, hb 23, hb 24, Value.int IntKind.i64 (mostV len0 (List.take len0 z0) a1_0 a1_1 a1_2), Value.int IntKind.i64 (mostV len0 (List.take len0 z0) a1_0 a1_1 a1_2), Value.bool false, f 28, f 29, f 30, f 31, f 32], []⟩) ∧ In w0.heap.size w0 w
def JFMostFlourc (B : Nat) (a0 : Option Addr) (len0 : Nat) (cap0 : Nat) (z0 : List Int) (a1_0 : Int) (a1_1 : Int) (a1_2 : Int) (b_p1 : Nat) (b_p0 : Nat) (ha : Nat → Value) (g_3 : Nat) (b_l1 : Nat) (hb : Nat → Value) : Nat → Act → World → Prop
  | 0, a, w => a.tmps[28]? = some (.agg #[.slice (some ⟨g_3, 0, none⟩) len0 len0])
  | 1, a, w => a.tmps[29]? = some (.agg #[.slice a0 len0 cap0])
  | 2, a, w => ∃ g, B ≤ g ∧ a.tmps[30]? = some (.agg #[.slice (some ⟨g, 0, none⟩) len0 len0]) ∧ OwnC w g (len0) len0 (z0.take len0)
  | 3, a, w => a.tmps[31]? = some (.bool true)
  | 4, a, w => a.tmps[32]? = some (.bool false)
  | _, _, _ => True
set_option maxHeartbeats 4000000 in
theorem walk_FnExactMostFlour (a0 : Option Addr) (len0 cap0 : Nat) (z0 : List Int) (a1_0 : Int) (u1_0 : (Lit.int .i64 a1_0).wf = true) (a1_1 : Int) (u1_1 : (Lit.int .i64 a1_1).wf = true) (a1_2 : Int) (u1_2 : (Lit.int .i64 a1_2).wf = true) (w : World) (w0 : IsRow .i64 w a0 len0 cap0 z0) :
    Calls Try.prog 5 #[.agg #[.slice a0 len0 cap0], .agg #[.int .i64 a1_0, .int .i64 a1_1, .int .i64 a1_2]] w fun e w' => e = .returned (.bool true) ∧ Below w.heap.size w w' := by
  clear u1_0 u1_1 u1_2
  have R0 := Lib.hid (reads_row w0)
  have m0 := row_le w0
  clear w0
  by_cases g0 : (1048576 : Int) < (len0 : Int)
  · go_enter Try.func5, Try.ntmps5
    go_wp2_with fail
    refine (szStock_c a0 len0 cap0 1048576 _ m0 (by omega) (by omega)).mono ?_
    rintro _ w_1 ⟨rfl, hb_1⟩
    rw [if_pos (by omega)]
    have i_1 : In w.heap.size w w_1 := In.step (by (repeat (first | exact In.refl _ | assumption | apply In.alloc | apply In.drewN | apply In.drew | (refine In.step ?_ (by assumption))))) hb_1
    go_wp2
    go_ret
    exact (show Val _ _ _ _ from Val.mk' rfl (by (repeat (first | exact In.refl _ | assumption | apply In.alloc | apply In.drewN | apply In.drew | (refine In.step ?_ (by assumption))))))
  have g0' : (len0 : Int) ≤ 1048576 := by omega
  clear g0
  have hm0 : len0 ≤ 1048576 := by omega
  obtain ⟨b_p0, hbx_p0⟩ : ∃ b, b = w.heap.size := ⟨_, rfl⟩
  have kk_p0 : Blk ((w.alloc (.cells #[.slice a0 len0 cap0] 24)).alloc (.cells #[.int .i64 a1_0, .int .i64 a1_1, .int .i64 a1_2] 32)) b_p0 24 #[.slice a0 len0 cap0] := ((Blk.new' (w := w) (t := 24) (cs := #[.slice a0 len0 cap0]) (g := b_p0) (by simp [hbx_p0])).alloc (.cells #[.int .i64 a1_0, .int .i64 a1_1, .int .i64 a1_2] 32))
  obtain ⟨b_p1, hbx_p1⟩ : ∃ b, b = w.heap.size + 1 := ⟨_, rfl⟩
  have kk_p1 : Blk ((w.alloc (.cells #[.slice a0 len0 cap0] 24)).alloc (.cells #[.int .i64 a1_0, .int .i64 a1_1, .int .i64 a1_2] 32)) b_p1 32 #[.int .i64 a1_0, .int .i64 a1_1, .int .i64 a1_2] := (Blk.new' (w := (w.alloc (.cells #[.slice a0 len0 cap0] 24))) (t := 32) (cs := #[.int .i64 a1_0, .int .i64 a1_1, .int .i64 a1_2]) (g := b_p1) (by simp [hbx_p1]))
  have hb_0 : Below w.heap.size w ((w.alloc (.cells #[.slice a0 len0 cap0] 24)).alloc (.cells #[.int .i64 a1_0, .int .i64 a1_1, .int .i64 a1_2] 32)) := by
    have h : In w.heap.size w ((w.alloc (.cells #[.slice a0 len0 cap0] 24)).alloc (.cells #[.int .i64 a1_0, .int .i64 a1_1, .int .i64 a1_2] 32)) := by (repeat (first | exact In.refl _ | assumption | apply In.alloc | apply In.drewN | apply In.drew | (refine In.step ?_ (by assumption))))
    exact h.below
  go_enter Try.func5, Try.ntmps5
  go_wp2_with fail
  rw [← hbx_p1]
  clear hbx_p1
  rw [← hbx_p0]
  clear hbx_p0
  generalize ((w.alloc (.cells #[.slice a0 len0 cap0] 24)).alloc (.cells #[.int .i64 a1_0, .int .i64 a1_1, .int .i64 a1_2] 32)) = w_0 at *
  have i_0 : In w.heap.size w w_0 := In.step (by (repeat (first | exact In.refl _ | assumption | apply In.alloc | apply In.drewN | apply In.drew | (refine In.step ?_ (by assumption))))) hb_0
  have k_0_p0 : Blk w_0 (b_p0) 24 #[.slice a0 len0 cap0] := kk_p0
  have c_0_p0_0 : w_0.cell? ⟨b_p0, 0, none⟩ = some (.slice a0 len0 cap0) := k_0_p0.cell 0
  have l_0_p0 := k_0_p0.lt
  have k_0_p1 : Blk w_0 (b_p1) 32 #[.int .i64 a1_0, .int .i64 a1_1, .int .i64 a1_2] := kk_p1
  have c_0_p1_0 : w_0.cell? ⟨b_p1, 0, none⟩ = some (.int .i64 a1_0) := k_0_p1.cell 0
  have c_0_p1_1 : w_0.cell? ⟨b_p1, 1, none⟩ = some (.int .i64 a1_1) := k_0_p1.cell 1
  have c_0_p1_2 : w_0.cell? ⟨b_p1, 2, none⟩ = some (.int .i64 a1_2) := k_0_p1.cell 2
  have l_0_p1 := k_0_p1.lt
  clear kk_p0 kk_p1
  go_wp2_with fail
  refine (szStock_c a0 len0 cap0 1048576 _ m0 (by omega) (by omega)).mono ?_
  rintro _ w_1 ⟨rfl, hb_1⟩
  rw [if_neg (by omega)]
  have i_1 : In w.heap.size w w_1 := In.step (by (repeat (first | exact In.refl _ | assumption | apply In.alloc | apply In.drewN | apply In.drew | (refine In.step ?_ (by assumption))))) hb_1
  have k_1_p0 : Blk w_1 (b_p0) 24 #[.slice a0 len0 cap0] := Blk.step (by (with_reducible (repeat (first | assumption | exact Blk.new' (by simp) | apply Blk.drewN | apply Blk.drew | apply Blk.alloc | (refine Blk.far ?_ (by (try simp) <;> omega) _))))) hb_1
  have c_1_p0_0 : w_1.cell? ⟨b_p0, 0, none⟩ = some (.slice a0 len0 cap0) := k_1_p0.cell 0
  have l_1_p0 := k_1_p0.lt
  have k_1_p1 : Blk w_1 (b_p1) 32 #[.int .i64 a1_0, .int .i64 a1_1, .int .i64 a1_2] := Blk.step (by (with_reducible (repeat (first | assumption | exact Blk.new' (by simp) | apply Blk.drewN | apply Blk.drew | apply Blk.alloc | (refine Blk.far ?_ (by (try simp) <;> omega) _))))) hb_1
  have c_1_p1_0 : w_1.cell? ⟨b_p1, 0, none⟩ = some (.int .i64 a1_0) := k_1_p1.cell 0
  have c_1_p1_1 : w_1.cell? ⟨b_p1, 1, none⟩ = some (.int .i64 a1_1) := k_1_p1.cell 1
  have c_1_p1_2 : w_1.cell? ⟨b_p1, 2, none⟩ = some (.int .i64 a1_2) := k_1_p1.cell 2
  have l_1_p1 := k_1_p1.lt
  clear i_0 k_0_p0 c_0_p0_0 l_0_p0 k_0_p1 c_0_p1_0 c_0_p1_1 c_0_p1_2 l_0_p1 hb_0
  go_wp2_with fail
  have hBw_1 : w_1.heap.size ≤ w_1.heap.size := Nat.le_refl _
  obtain ⟨B_1, hB_1⟩ : ∃ B, B = w_1.heap.size := ⟨_, rfl⟩
  have hBl_1 : B_1 ≤ w_1.heap.size := by omega
  have hBg_1 : w_1.heap.size ≤ B_1 := by omega
  clear hBw_1 hB_1
  refine wp_region_facts (JIMostFloura w_1 a0 len0 cap0 z0 a1_0 a1_1 a1_2 b_p1 b_p0) (JFMostFloura B_1 a0 len0 cap0 z0 a1_0 a1_1 a1_2 b_p1 b_p0) (by kernel_rfl) (by kernel_rfl) ⟨⟨fun _ => undef, rfl⟩, (In.refl _).drew⟩ ?_ ?_
  · intro a v1 i o ho hI haf
    obtain ⟨⟨f, rfl⟩, hin⟩ := hI
    have kv_p0 : Blk v1 (b_p0) 24 #[.slice a0 len0 cap0] := Blk.step k_1_p0 hin.below
    have cv_p0_0 := kv_p0.cell 0
    have kv_p1 : Blk v1 (b_p1) 32 #[.int .i64 a1_0, .int .i64 a1_1, .int .i64 a1_2] := Blk.step k_1_p1 hin.below
    have cv_p1_0 := kv_p1.cell 0
    have cv_p1_1 := kv_p1.cell 1
    have cv_p1_2 := kv_p1.cell 2
    have hi : i < 6 := by
      rcases Nat.lt_or_ge i 6 with h | h
      · exact h
      · simp [h] at ho
    suffices H : ∀ K : Act → World → Prop, (∀ a' w', ((JIMostFloura w_1 a0 len0 cap0 z0 a1_0 a1_1 a1_2 b_p1 b_p0) a' w' ∧ (JFMostFloura B_1 a0 len0 cap0 z0 a1_0 a1_1 a1_2 b_p1 b_p0) i a' w' ∧ ∀ j, j ≠ i → waitsB _ j i = false → (JFMostFloura B_1 a0 len0 cap0 z0 a1_0 a1_1 a1_2 b_p1 b_p0) j ⟨#[Value.agg #[Value.slice a0 len0 cap0], Value.agg #[Value.int IntKind.i64 a1_0, Value.int IntKind.i64 a1_1, Value.int IntKind.i64 a1_2], Value.pointer (some { block := b_p0, off := 0 }), Value.pointer (some { block := b_p1, off := 0 }), Value.bool false, Value.int IntKind.i64 (1048576 - ((len0 : Nat) : Int)), f 6, undef, undef, Value.agg #[Value.slice a0 len0 cap0], Value.int IntKind.i64 1048576, Value.int IntKind.i64 (1048576 - ((len0 : Nat) : Int)), Value.int IntKind.i64 (1048576 - ((len0 : Nat) : Int)), Value.bool (decide (1048576 - ((len0 : Nat) : Int) < 0)), f 14, f 15, f 16, f 17, f 18, undef, undef, undef, undef, undef, undef, undef, undef, undef, undef, undef, undef, undef, undef], []⟩ v1 → (JFMostFloura B_1 a0 len0 cap0 z0 a1_0 a1_1 a1_2 b_p1 b_p0) j a' w') → K a' w') → wpOp _ _ _ i K ⟨#[Value.agg #[Value.slice a0 len0 cap0], Value.agg #[Value.int IntKind.i64 a1_0, Value.int IntKind.i64 a1_1, Value.int IntKind.i64 a1_2], Value.pointer (some { block := b_p0, off := 0 }), Value.pointer (some { block := b_p1, off := 0 }), Value.bool false, Value.int IntKind.i64 (1048576 - ((len0 : Nat) : Int)), f 6, undef, undef, Value.agg #[Value.slice a0 len0 cap0], Value.int IntKind.i64 1048576, Value.int IntKind.i64 (1048576 - ((len0 : Nat) : Int)), Value.int IntKind.i64 (1048576 - ((len0 : Nat) : Int)), Value.bool (decide (1048576 - ((len0 : Nat) : Int) < 0)), f 14, f 15, f 16, f 17, f 18, undef, undef, undef, undef, undef, undef, undef, undef, undef, undef, undef, undef, undef, undef], []⟩ v1 from H _ fun _ _ h => h
    intro K hK
    rcases (by omega : i = 0 ∨ i = 1 ∨ i = 2 ∨ i = 3 ∨ i = 4 ∨ i = 5) with rfl | rfl | rfl | rfl | rfl | rfl
    · obtain rfl := Option.some.inj ho
      refine wpOp_plain rfl rfl ?_
      unfold Oper.wp
      go_simp
      exact hK _ _ ⟨⟨⟨updf f 14 (.agg #[.slice a0 len0 cap0]), rfl⟩, hin⟩, rfl, fun j hj hw hf => by
          rcases j with _ | _ | _ | _ | _ | _ | j
          all_goals first | exact absurd rfl hj | exact hf | rfl⟩
    · obtain rfl := Option.some.inj ho
      have f0 := haf { on := 0, ground := .data } (by simp) rfl
      have f0 : _ = _ := Option.some.inj f0
      refine wpOp_plain rfl rfl ?_
      unfold Oper.wp
      go_simp
      refine (toStock_c a0 len0 cap0 (z0.take len0) _ (by omega) (R0.out.below ((i_1).trans hin).below (Nat.le_refl _))).mono ?_
      rintro _ v2 ⟨g2, rfl, ho2, hg2, hb2⟩
      exact hK _ _ ⟨⟨⟨updf f 15 (.agg #[.slice (some ⟨g2, 0, none⟩) len0 len0]), rfl⟩, hin.step hb2⟩, ⟨g2, Nat.le_trans (Nat.le_trans hBl_1 hin.size) hg2, rfl, ho2⟩, fun j hj hw hf => by
          rcases j with _ | _ | _ | _ | _ | _ | j
          all_goals first | exact absurd rfl hj | exact hf | rfl | (obtain ⟨g, c, h0, h1, h2⟩ := hf; exact ⟨g, c, h0, h1, h2.step hb2⟩) | (obtain ⟨g, h0, h1, h2⟩ := hf; exact ⟨g, h0, h1, h2.step hb2⟩) | (obtain ⟨gs, X, h0, h1, h2⟩ := hf; exact ⟨gs, X, h0, h1, h2.step hb2⟩) | (obtain ⟨gs, g, c, h0, h1, h2, h3, h4⟩ := hf; exact ⟨gs, g, c, h0, h1, h2.step hb2, h3, h4.step hb2⟩)⟩
    · obtain rfl := Option.some.inj ho
      refine wpOp_plain rfl rfl ?_
      unfold Oper.wp
      go_simp
      exact hK _ _ ⟨⟨⟨updf f 16 (.agg #[.int .i64 a1_0, .int .i64 a1_1, .int .i64 a1_2]), rfl⟩, hin⟩, rfl, fun j hj hw hf => by
          rcases j with _ | _ | _ | _ | _ | _ | j
          all_goals first | exact absurd rfl hj | exact hf | rfl⟩
    · obtain rfl := Option.some.inj ho
      have f2 := haf { on := 2, ground := .data } (by simp) rfl
      have f2 : _ = _ := Option.some.inj f2
      refine wpOp_plain rfl rfl ?_
      unfold Oper.wp
      go_simp
      refine (toDough_c a1_0 a1_1 a1_2 _).mono ?_
      rintro _ v2 ⟨rfl, hb2⟩
      exact hK _ _ ⟨⟨⟨updf f 17 (.agg #[.int .i64 a1_0, .int .i64 a1_1, .int .i64 a1_2]), rfl⟩, hin.step hb2⟩, rfl, fun j hj hw hf => by
          rcases j with _ | _ | _ | _ | _ | _ | j
          all_goals first | exact absurd rfl hj | exact hf | rfl | (obtain ⟨g, c, h0, h1, h2⟩ := hf; exact ⟨g, c, h0, h1, h2.step hb2⟩) | (obtain ⟨g, h0, h1, h2⟩ := hf; exact ⟨g, h0, h1, h2.step hb2⟩) | (obtain ⟨gs, X, h0, h1, h2⟩ := hf; exact ⟨gs, X, h0, h1, h2.step hb2⟩) | (obtain ⟨gs, g, c, h0, h1, h2, h3, h4⟩ := hf; exact ⟨gs, g, c, h0, h1, h2.step hb2, h3, h4.step hb2⟩)⟩
    · obtain rfl := Option.some.inj ho
      obtain ⟨g_1, hb1, f1, ho1⟩ := haf { on := 1, ground := .data } (by simp) rfl
      have f1 : _ = _ := Option.some.inj f1
      have f3 := haf { on := 3, ground := .data } (by simp) rfl
      have f3 : _ = _ := Option.some.inj f3
      refine wpOp_plain rfl rfl ?_
      unfold Oper.wp
      go_simp
      refine (sMostFlour ⟨g_1, 0, none⟩ (len0) len0 (z0.take len0) a1_0 a1_1 a1_2 _ (by omega) (ho1.reads)).mono ?_
      rintro _ v2 ⟨rfl, hb2⟩
      exact hK _ _ ⟨⟨⟨updf f 18 (.int .i64 ((mostV len0 (z0.take len0) a1_0 a1_1 a1_2))), rfl⟩, hin.step hb2⟩, rfl, fun j hj hw hf => by
          rcases j with _ | _ | _ | _ | _ | _ | j
          all_goals first | exact absurd rfl hj | exact hf | rfl | (obtain ⟨g, c, h0, h1, h2⟩ := hf; exact ⟨g, c, h0, h1, h2.step hb2⟩) | (obtain ⟨g, h0, h1, h2⟩ := hf; exact ⟨g, h0, h1, h2.step hb2⟩) | (obtain ⟨gs, X, h0, h1, h2⟩ := hf; exact ⟨gs, X, h0, h1, h2.step hb2⟩) | (obtain ⟨gs, g, c, h0, h1, h2, h3, h4⟩ := hf; exact ⟨gs, g, c, h0, h1, h2.step hb2, h3, h4.step hb2⟩)⟩
    · obtain rfl := Option.some.inj ho
      have f4 := haf { on := 4, ground := .data } (by simp) rfl
      have f4 : _ = _ := Option.some.inj f4
      refine wpOp_plain rfl rfl ?_
      unfold Oper.wp
      go_simp
      exact hK _ _ ⟨⟨⟨updf f 6 (.int .i64 ((mostV len0 (z0.take len0) a1_0 a1_1 a1_2))), rfl⟩, hin⟩, rfl, fun j hj hw hf => by
          rcases j with _ | _ | _ | _ | _ | _ | j
          all_goals first | exact absurd rfl hj | exact hf | rfl⟩
  intro a w_2 hI hF
  obtain ⟨⟨ha, rfl⟩, hn_2⟩ := hI
  have hb_2 := hn_2.below
  have he_2_6 : ha 6 = _ := Option.some.inj (hF 5 (by decide))
  clear hF
  rw [he_2_6]
  clear he_2_6
  have i_2 : In w.heap.size w w_2 := In.step (by (repeat (first | exact In.refl _ | assumption | apply In.alloc | apply In.drewN | apply In.drew | (refine In.step ?_ (by assumption))))) hb_2
  have k_2_p0 : Blk w_2 (b_p0) 24 #[.slice a0 len0 cap0] := Blk.step (by (with_reducible (repeat (first | assumption | exact Blk.new' (by simp) | apply Blk.drewN | apply Blk.drew | apply Blk.alloc | (refine Blk.far ?_ (by (try simp) <;> omega) _))))) hb_2
  have c_2_p0_0 : w_2.cell? ⟨b_p0, 0, none⟩ = some (.slice a0 len0 cap0) := k_2_p0.cell 0
  have l_2_p0 := k_2_p0.lt
  have k_2_p1 : Blk w_2 (b_p1) 32 #[.int .i64 a1_0, .int .i64 a1_1, .int .i64 a1_2] := Blk.step (by (with_reducible (repeat (first | assumption | exact Blk.new' (by simp) | apply Blk.drewN | apply Blk.drew | apply Blk.alloc | (refine Blk.far ?_ (by (try simp) <;> omega) _))))) hb_2
  have c_2_p1_0 : w_2.cell? ⟨b_p1, 0, none⟩ = some (.int .i64 a1_0) := k_2_p1.cell 0
  have c_2_p1_1 : w_2.cell? ⟨b_p1, 1, none⟩ = some (.int .i64 a1_1) := k_2_p1.cell 1
  have c_2_p1_2 : w_2.cell? ⟨b_p1, 2, none⟩ = some (.int .i64 a1_2) := k_2_p1.cell 2
  have l_2_p1 := k_2_p1.lt
  clear i_1 k_1_p0 c_1_p0_0 l_1_p0 k_1_p1 c_1_p1_0 c_1_p1_1 c_1_p1_2 l_1_p1 hb_1
  clear hn_2
  clear hBl_1 hBg_1
  have IC := Lib.hid i_2
  have j_2 : In w_2.heap.size w_2 w_2 := In.refl _
  go_wp2_with fail
  refine (toStock_c a0 len0 cap0 (z0.take len0) _ (by omega) (by exact R0.out.below (In.below (IC.out.trans (by (repeat (first | exact In.refl _ | assumption | apply In.alloc | apply In.drewN | apply In.drew | (refine In.step ?_ (by assumption))))))) (Nat.le_refl _))).mono ?_
  rintro _ w_3 ⟨g_3, rfl, ho_3, hg_3, hb_3⟩
  have GX_X1 : Hid (w_2.heap.size ≤ g_3) := Lib.hid (by have h1 := hg_3; (try simp at h1); have h2 := In.size j_2; omega)
  have o_3_X1 : OwnC w_3 g_3 (len0) len0 (z0.take len0) := ho_3
  clear ho_3 hg_3
  have j_3 : In w_2.heap.size w_2 w_3 := In.step (by (repeat (first | exact In.refl _ | assumption | apply In.alloc | apply In.drewN | apply In.drew | (refine In.step ?_ (by assumption))))) hb_3
  have k_3_p0 : Blk w_3 (b_p0) 24 #[.slice a0 len0 cap0] := Blk.step (by (with_reducible (repeat (first | assumption | exact Blk.new' (by simp) | apply Blk.drewN | apply Blk.drew | apply Blk.alloc | (refine Blk.far ?_ (by (try simp) <;> omega) _))))) hb_3
  have c_3_p0_0 : w_3.cell? ⟨b_p0, 0, none⟩ = some (.slice a0 len0 cap0) := k_3_p0.cell 0
  have l_3_p0 := k_3_p0.lt
  have k_3_p1 : Blk w_3 (b_p1) 32 #[.int .i64 a1_0, .int .i64 a1_1, .int .i64 a1_2] := Blk.step (by (with_reducible (repeat (first | assumption | exact Blk.new' (by simp) | apply Blk.drewN | apply Blk.drew | apply Blk.alloc | (refine Blk.far ?_ (by (try simp) <;> omega) _))))) hb_3
  have c_3_p1_0 : w_3.cell? ⟨b_p1, 0, none⟩ = some (.int .i64 a1_0) := k_3_p1.cell 0
  have c_3_p1_1 : w_3.cell? ⟨b_p1, 1, none⟩ = some (.int .i64 a1_1) := k_3_p1.cell 1
  have c_3_p1_2 : w_3.cell? ⟨b_p1, 2, none⟩ = some (.int .i64 a1_2) := k_3_p1.cell 2
  have l_3_p1 := k_3_p1.lt
  clear i_2 k_2_p0 c_2_p0_0 l_2_p0 k_2_p1 c_2_p1_0 c_2_p1_1 c_2_p1_2 l_2_p1 hb_2 j_2
  go_wp2_with fail
  obtain ⟨b_l1, hbx_l1⟩ : ∃ b, b = w_3.heap.size := ⟨_, rfl⟩
  rw [← hbx_l1]
  have hb_4 : Below w_3.heap.size w_3 (w_3.alloc (.cells #[.slice (some ⟨g_3, 0, none⟩) len0 len0] 27)) := (Below.refl _ _).alloc (Nat.le_refl _) _
  have kk_4 : Blk (w_3.alloc (.cells #[.slice (some ⟨g_3, 0, none⟩) len0 len0] 27)) b_l1 27 #[.slice (some ⟨g_3, 0, none⟩) len0 len0] := Blk.new' hbx_l1
  clear hbx_l1
  generalize (w_3.alloc (.cells #[.slice (some ⟨g_3, 0, none⟩) len0 len0] 27)) = w_4 at *
  have j_4 : In w_2.heap.size w_2 w_4 := In.step (by (repeat (first | exact In.refl _ | assumption | apply In.alloc | apply In.drewN | apply In.drew | (refine In.step ?_ (by assumption))))) hb_4
  have k_4_p0 : Blk w_4 (b_p0) 24 #[.slice a0 len0 cap0] := Blk.step (by (with_reducible (repeat (first | assumption | exact Blk.new' (by simp) | apply Blk.drewN | apply Blk.drew | apply Blk.alloc | (refine Blk.far ?_ (by (try simp) <;> omega) _))))) hb_4
  have c_4_p0_0 : w_4.cell? ⟨b_p0, 0, none⟩ = some (.slice a0 len0 cap0) := k_4_p0.cell 0
  have l_4_p0 := k_4_p0.lt
  have k_4_p1 : Blk w_4 (b_p1) 32 #[.int .i64 a1_0, .int .i64 a1_1, .int .i64 a1_2] := Blk.step (by (with_reducible (repeat (first | assumption | exact Blk.new' (by simp) | apply Blk.drewN | apply Blk.drew | apply Blk.alloc | (refine Blk.far ?_ (by (try simp) <;> omega) _))))) hb_4
  have c_4_p1_0 : w_4.cell? ⟨b_p1, 0, none⟩ = some (.int .i64 a1_0) := k_4_p1.cell 0
  have c_4_p1_1 : w_4.cell? ⟨b_p1, 1, none⟩ = some (.int .i64 a1_1) := k_4_p1.cell 1
  have c_4_p1_2 : w_4.cell? ⟨b_p1, 2, none⟩ = some (.int .i64 a1_2) := k_4_p1.cell 2
  have l_4_p1 := k_4_p1.lt
  have k_4_l1 : Blk w_4 (b_l1) 27 #[.slice (some ⟨g_3, 0, none⟩) len0 len0] := kk_4
  have c_4_l1_0 : w_4.cell? ⟨b_l1, 0, none⟩ = some (.slice (some ⟨g_3, 0, none⟩) len0 len0) := k_4_l1.cell 0
  have l_4_l1 := k_4_l1.lt
  have o_4_X1 : OwnC w_4 g_3 (len0) len0 (z0.take len0) := OwnC.step (by (with_reducible (repeat (first | assumption | apply OwnC.drewN | apply OwnC.drew | apply OwnC.alloc)))) hb_4
  clear j_3 k_3_p0 c_3_p0_0 l_3_p0 k_3_p1 c_3_p1_0 c_3_p1_1 c_3_p1_2 l_3_p1 o_3_X1 hb_3
  clear kk_4
  go_wp2_with fail
  have hBw_4 : w_4.heap.size ≤ w_4.heap.size := Nat.le_refl _
  obtain ⟨B_4, hB_4⟩ : ∃ B, B = w_4.heap.size := ⟨_, rfl⟩
  have hBl_4 : B_4 ≤ w_4.heap.size := by omega
  have hBg_4 : w_4.heap.size ≤ B_4 := by omega
  clear hBw_4 hB_4
  refine wp_region_facts (JIMostFlourb w_4 a0 len0 cap0 z0 a1_0 a1_1 a1_2 b_p1 b_p0 ha g_3 b_l1) (JFMostFlourb B_4 a0 len0 cap0 z0 a1_0 a1_1 a1_2 b_p1 b_p0 ha g_3 b_l1) (by kernel_rfl) (by kernel_rfl) ⟨⟨fun _ => undef, rfl⟩, (In.refl _).drew⟩ ?_ ?_
  · intro a v1 i o ho hI haf
    obtain ⟨⟨f, rfl⟩, hin⟩ := hI
    have kv_p0 : Blk v1 (b_p0) 24 #[.slice a0 len0 cap0] := Blk.step k_4_p0 hin.below
    have cv_p0_0 := kv_p0.cell 0
    have kv_p1 : Blk v1 (b_p1) 32 #[.int .i64 a1_0, .int .i64 a1_1, .int .i64 a1_2] := Blk.step k_4_p1 hin.below
    have cv_p1_0 := kv_p1.cell 0
    have cv_p1_1 := kv_p1.cell 1
    have cv_p1_2 := kv_p1.cell 2
    have kv_l1 : Blk v1 (b_l1) 27 #[.slice (some ⟨g_3, 0, none⟩) len0 len0] := Blk.step k_4_l1 hin.below
    have cv_l1_0 := kv_l1.cell 0
    have ov_X1 : OwnC v1 g_3 (len0) len0 (z0.take len0) := OwnC.step o_4_X1 hin.below
    have hi : i < 5 := by
      rcases Nat.lt_or_ge i 5 with h | h
      · exact h
      · simp [h] at ho
    suffices H : ∀ K : Act → World → Prop, (∀ a' w', ((JIMostFlourb w_4 a0 len0 cap0 z0 a1_0 a1_1 a1_2 b_p1 b_p0 ha g_3 b_l1) a' w' ∧ (JFMostFlourb B_4 a0 len0 cap0 z0 a1_0 a1_1 a1_2 b_p1 b_p0 ha g_3 b_l1) i a' w' ∧ ∀ j, j ≠ i → waitsB _ j i = false → (JFMostFlourb B_4 a0 len0 cap0 z0 a1_0 a1_1 a1_2 b_p1 b_p0 ha g_3 b_l1) j ⟨#[Value.agg #[Value.slice a0 len0 cap0], Value.agg #[Value.int IntKind.i64 a1_0, Value.int IntKind.i64 a1_1, Value.int IntKind.i64 a1_2], Value.pointer (some { block := b_p0, off := 0 }), Value.pointer (some { block := b_p1, off := 0 }), Value.bool false, Value.int IntKind.i64 (1048576 - ((len0 : Nat) : Int)), Value.int IntKind.i64 (mostV len0 (List.take len0 z0) a1_0 a1_1 a1_2), Value.pointer (some { block := b_l1, off := 0 }), f 8, Value.agg #[Value.slice a0 len0 cap0], Value.int IntKind.i64 1048576, Value.int IntKind.i64 (1048576 - ((len0 : Nat) : Int)), Value.int IntKind.i64 (1048576 - ((len0 : Nat) : Int)), Value.bool (decide (1048576 - ((len0 : Nat) : Int) < 0)), ha 14, ha 15, ha 16, ha 17, ha 18, Value.agg #[Value.slice a0 len0 cap0], Value.agg #[Value.slice (some { block := g_3, off := 0 }) len0 len0], f 21, f 22, f 23, f 24, undef, undef, undef, undef, undef, undef, undef, undef], []⟩ v1 → (JFMostFlourb B_4 a0 len0 cap0 z0 a1_0 a1_1 a1_2 b_p1 b_p0 ha g_3 b_l1) j a' w') → K a' w') → wpOp _ _ _ i K ⟨#[Value.agg #[Value.slice a0 len0 cap0], Value.agg #[Value.int IntKind.i64 a1_0, Value.int IntKind.i64 a1_1, Value.int IntKind.i64 a1_2], Value.pointer (some { block := b_p0, off := 0 }), Value.pointer (some { block := b_p1, off := 0 }), Value.bool false, Value.int IntKind.i64 (1048576 - ((len0 : Nat) : Int)), Value.int IntKind.i64 (mostV len0 (List.take len0 z0) a1_0 a1_1 a1_2), Value.pointer (some { block := b_l1, off := 0 }), f 8, Value.agg #[Value.slice a0 len0 cap0], Value.int IntKind.i64 1048576, Value.int IntKind.i64 (1048576 - ((len0 : Nat) : Int)), Value.int IntKind.i64 (1048576 - ((len0 : Nat) : Int)), Value.bool (decide (1048576 - ((len0 : Nat) : Int) < 0)), ha 14, ha 15, ha 16, ha 17, ha 18, Value.agg #[Value.slice a0 len0 cap0], Value.agg #[Value.slice (some { block := g_3, off := 0 }) len0 len0], f 21, f 22, f 23, f 24, undef, undef, undef, undef, undef, undef, undef, undef], []⟩ v1 from H _ fun _ _ h => h
    intro K hK
    rcases (by omega : i = 0 ∨ i = 1 ∨ i = 2 ∨ i = 3 ∨ i = 4) with rfl | rfl | rfl | rfl | rfl
    · obtain rfl := Option.some.inj ho
      refine wpOp_plain rfl rfl ?_
      unfold Oper.wp
      go_simp
      exact hK _ _ ⟨⟨⟨updf f 21 (.agg #[.slice (some ⟨g_3, 0, none⟩) len0 len0]), rfl⟩, hin⟩, rfl, fun j hj hw hf => by
          rcases j with _ | _ | _ | _ | _ | j
          all_goals first | exact absurd rfl hj | exact hf | rfl⟩
    · obtain rfl := Option.some.inj ho
      refine wpOp_plain rfl rfl ?_
      unfold Oper.wp
      go_simp
      exact hK _ _ ⟨⟨⟨updf f 22 (.agg #[.int .i64 a1_0, .int .i64 a1_1, .int .i64 a1_2]), rfl⟩, hin⟩, rfl, fun j hj hw hf => by
          rcases j with _ | _ | _ | _ | _ | j
          all_goals first | exact absurd rfl hj | exact hf | rfl⟩
    · obtain rfl := Option.some.inj ho
      have f1 := haf { on := 1, ground := .data } (by simp) rfl
      have f1 : _ = _ := Option.some.inj f1
      refine wpOp_plain rfl rfl ?_
      unfold Oper.wp
      go_simp
      refine (toDough_c a1_0 a1_1 a1_2 _).mono ?_
      rintro _ v2 ⟨rfl, hb2⟩
      exact hK _ _ ⟨⟨⟨updf f 23 (.agg #[.int .i64 a1_0, .int .i64 a1_1, .int .i64 a1_2]), rfl⟩, hin.step hb2⟩, rfl, fun j hj hw hf => by
          rcases j with _ | _ | _ | _ | _ | j
          all_goals first | exact absurd rfl hj | exact hf | rfl | (obtain ⟨g, c, h0, h1, h2⟩ := hf; exact ⟨g, c, h0, h1, h2.step hb2⟩) | (obtain ⟨g, h0, h1, h2⟩ := hf; exact ⟨g, h0, h1, h2.step hb2⟩) | (obtain ⟨gs, X, h0, h1, h2⟩ := hf; exact ⟨gs, X, h0, h1, h2.step hb2⟩) | (obtain ⟨gs, g, c, h0, h1, h2, h3, h4⟩ := hf; exact ⟨gs, g, c, h0, h1, h2.step hb2, h3, h4.step hb2⟩)⟩
    · obtain rfl := Option.some.inj ho
      have f0 := haf { on := 0, ground := .data } (by simp) rfl
      have f0 : _ = _ := Option.some.inj f0
      have f2 := haf { on := 2, ground := .data } (by simp) rfl
      have f2 : _ = _ := Option.some.inj f2
      refine wpOp_plain rfl rfl ?_
      unfold Oper.wp
      go_simp
      refine (iMostFlour ⟨g_3, 0, none⟩ (len0) len0 (z0.take len0) a1_0 a1_1 a1_2 _ (by omega) (ov_X1.reads)).mono ?_
      rintro _ v2 ⟨rfl, hb2⟩
      exact hK _ _ ⟨⟨⟨updf f 24 (.int .i64 ((mostV len0 (z0.take len0) a1_0 a1_1 a1_2))), rfl⟩, hin.step hb2⟩, rfl, fun j hj hw hf => by
          rcases j with _ | _ | _ | _ | _ | j
          all_goals first | exact absurd rfl hj | exact hf | rfl | (obtain ⟨g, c, h0, h1, h2⟩ := hf; exact ⟨g, c, h0, h1, h2.step hb2⟩) | (obtain ⟨g, h0, h1, h2⟩ := hf; exact ⟨g, h0, h1, h2.step hb2⟩) | (obtain ⟨gs, X, h0, h1, h2⟩ := hf; exact ⟨gs, X, h0, h1, h2.step hb2⟩) | (obtain ⟨gs, g, c, h0, h1, h2, h3, h4⟩ := hf; exact ⟨gs, g, c, h0, h1, h2.step hb2, h3, h4.step hb2⟩)⟩
    · obtain rfl := Option.some.inj ho
      have f3 := haf { on := 3, ground := .data } (by simp) rfl
      have f3 : _ = _ := Option.some.inj f3
      refine wpOp_plain rfl rfl ?_
      unfold Oper.wp
      go_simp
      exact hK _ _ ⟨⟨⟨updf f 8 (.int .i64 ((mostV len0 (z0.take len0) a1_0 a1_1 a1_2))), rfl⟩, hin⟩, rfl, fun j hj hw hf => by
          rcases j with _ | _ | _ | _ | _ | j
          all_goals first | exact absurd rfl hj | exact hf | rfl⟩
  intro a w_5 hI hF
  obtain ⟨⟨hb, rfl⟩, hn_5⟩ := hI
  have hb_5 := hn_5.below
  have he_5_8 : hb 8 = _ := Option.some.inj (hF 4 (by decide))
  clear hF
  rw [he_5_8]
  clear he_5_8
  have j_5 : In w_2.heap.size w_2 w_5 := In.step (by (repeat (first | exact In.refl _ | assumption | apply In.alloc | apply In.drewN | apply In.drew | (refine In.step ?_ (by assumption))))) hb_5
  have k_5_p0 : Blk w_5 (b_p0) 24 #[.slice a0 len0 cap0] := Blk.step (by (with_reducible (repeat (first | assumption | exact Blk.new' (by simp) | apply Blk.drewN | apply Blk.drew | apply Blk.alloc | (refine Blk.far ?_ (by (try simp) <;> omega) _))))) hb_5
  have c_5_p0_0 : w_5.cell? ⟨b_p0, 0, none⟩ = some (.slice a0 len0 cap0) := k_5_p0.cell 0
  have l_5_p0 := k_5_p0.lt
  have k_5_p1 : Blk w_5 (b_p1) 32 #[.int .i64 a1_0, .int .i64 a1_1, .int .i64 a1_2] := Blk.step (by (with_reducible (repeat (first | assumption | exact Blk.new' (by simp) | apply Blk.drewN | apply Blk.drew | apply Blk.alloc | (refine Blk.far ?_ (by (try simp) <;> omega) _))))) hb_5
  have c_5_p1_0 : w_5.cell? ⟨b_p1, 0, none⟩ = some (.int .i64 a1_0) := k_5_p1.cell 0
  have c_5_p1_1 : w_5.cell? ⟨b_p1, 1, none⟩ = some (.int .i64 a1_1) := k_5_p1.cell 1
  have c_5_p1_2 : w_5.cell? ⟨b_p1, 2, none⟩ = some (.int .i64 a1_2) := k_5_p1.cell 2
  have l_5_p1 := k_5_p1.lt
  have k_5_l1 : Blk w_5 (b_l1) 27 #[.slice (some ⟨g_3, 0, none⟩) len0 len0] := Blk.step (by (with_reducible (repeat (first | assumption | exact Blk.new' (by simp) | apply Blk.drewN | apply Blk.drew | apply Blk.alloc | (refine Blk.far ?_ (by (try simp) <;> omega) _))))) hb_5
  have c_5_l1_0 : w_5.cell? ⟨b_l1, 0, none⟩ = some (.slice (some ⟨g_3, 0, none⟩) len0 len0) := k_5_l1.cell 0
  have l_5_l1 := k_5_l1.lt
  have o_5_X1 : OwnC w_5 g_3 (len0) len0 (z0.take len0) := OwnC.step (by (with_reducible (repeat (first | assumption | apply OwnC.drewN | apply OwnC.drew | apply OwnC.alloc)))) hb_5
  clear j_4 k_4_p0 c_4_p0_0 l_4_p0 k_4_p1 c_4_p1_0 c_4_p1_1 c_4_p1_2 l_4_p1 k_4_l1 c_4_l1_0 l_4_l1 o_4_X1 hb_4
  clear hn_5
  clear hBl_4 hBg_4
  go_wp2_with fail
  have hBw_5 : w_5.heap.size ≤ w_5.heap.size := Nat.le_refl _
  obtain ⟨B_5, hB_5⟩ : ∃ B, B = w_5.heap.size := ⟨_, rfl⟩
  have hBl_5 : B_5 ≤ w_5.heap.size := by omega
  have hBg_5 : w_5.heap.size ≤ B_5 := by omega
  clear hBw_5 hB_5
  refine wp_region_facts (JIMostFlourc w_5 a0 len0 cap0 z0 a1_0 a1_1 a1_2 b_p1 b_p0 ha g_3 b_l1 hb) (JFMostFlourc B_5 a0 len0 cap0 z0 a1_0 a1_1 a1_2 b_p1 b_p0 ha g_3 b_l1 hb) (by kernel_rfl) (by kernel_rfl) ⟨⟨fun _ => undef, rfl⟩, (In.refl _).drew⟩ ?_ ?_
  · intro a v1 i o ho hI haf
    obtain ⟨⟨f, rfl⟩, hin⟩ := hI
    have kv_p0 : Blk v1 (b_p0) 24 #[.slice a0 len0 cap0] := Blk.step k_5_p0 hin.below
    have cv_p0_0 := kv_p0.cell 0
    have kv_p1 : Blk v1 (b_p1) 32 #[.int .i64 a1_0, .int .i64 a1_1, .int .i64 a1_2] := Blk.step k_5_p1 hin.below
    have cv_p1_0 := kv_p1.cell 0
    have cv_p1_1 := kv_p1.cell 1
    have cv_p1_2 := kv_p1.cell 2
    have kv_l1 : Blk v1 (b_l1) 27 #[.slice (some ⟨g_3, 0, none⟩) len0 len0] := Blk.step k_5_l1 hin.below
    have cv_l1_0 := kv_l1.cell 0
    have ov_X1 : OwnC v1 g_3 (len0) len0 (z0.take len0) := OwnC.step o_5_X1 hin.below
    have hi : i < 5 := by
      rcases Nat.lt_or_ge i 5 with h | h
      · exact h
      · simp [h] at ho
    suffices H : ∀ K : Act → World → Prop, (∀ a' w', ((JIMostFlourc w_5 a0 len0 cap0 z0 a1_0 a1_1 a1_2 b_p1 b_p0 ha g_3 b_l1 hb) a' w' ∧ (JFMostFlourc B_5 a0 len0 cap0 z0 a1_0 a1_1 a1_2 b_p1 b_p0 ha g_3 b_l1 hb) i a' w' ∧ ∀ j, j ≠ i → waitsB _ j i = false → (JFMostFlourc B_5 a0 len0 cap0 z0 a1_0 a1_1 a1_2 b_p1 b_p0 ha g_3 b_l1 hb) j ⟨#[Value.agg #[Value.slice a0 len0 cap0], Value.agg #[Value.int IntKind.i64 a1_0, Value.int IntKind.i64 a1_1, Value.int IntKind.i64 a1_2], Value.pointer (some { block := b_p0, off := 0 }), Value.pointer (some { block := b_p1, off := 0 }), Value.bool false, Value.int IntKind.i64 (1048576 - ((len0 : Nat) : Int)), Value.int IntKind.i64 (mostV len0 (List.take len0 z0) a1_0 a1_1 a1_2), Value.pointer (some { block := b_l1, off := 0 }), Value.int IntKind.i64 (mostV len0 (List.take len0 z0) a1_0 a1_1 a1_2), Value.agg #[Value.slice a0 len0 cap0], Value.int IntKind.i64 1048576, Value.int IntKind.i64 (1048576 - ((len0 : Nat) : Int)), Value.int IntKind.i64 (1048576 - ((len0 : Nat) : Int)), Value.bool (decide (1048576 - ((len0 : Nat) : Int) < 0)), ha 14, ha 15, ha 16, ha 17, ha 18, Value.agg #[Value.slice a0 len0 cap0], Value.agg #[Value.slice (some { block := g_3, off := 0 }) len0 len0], hb 21, hb 22, hb 23, hb 24, Value.int IntKind.i64 (mostV len0 (List.take len0 z0) a1_0 a1_1 a1_2), Value.int IntKind.i64 (mostV len0 (List.take len0 z0) a1_0 a1_1 a1_2), Value.bool false, f 28, f 29, f 30, f 31, f 32], []⟩ v1 → (JFMostFlourc B_5 a0 len0 cap0 z0 a1_0 a1_1 a1_2 b_p1 b_p0 ha g_3 b_l1 hb) j a' w') → K a' w') → wpOp _ _ _ i K ⟨#[Value.agg #[Value.slice a0 len0 cap0], Value.agg #[Value.int IntKind.i64 a1_0, Value.int IntKind.i64 a1_1, Value.int IntKind.i64 a1_2], Value.pointer (some { block := b_p0, off := 0 }), Value.pointer (some { block := b_p1, off := 0 }), Value.bool false, Value.int IntKind.i64 (1048576 - ((len0 : Nat) : Int)), Value.int IntKind.i64 (mostV len0 (List.take len0 z0) a1_0 a1_1 a1_2), Value.pointer (some { block := b_l1, off := 0 }), Value.int IntKind.i64 (mostV len0 (List.take len0 z0) a1_0 a1_1 a1_2), Value.agg #[Value.slice a0 len0 cap0], Value.int IntKind.i64 1048576, Value.int IntKind.i64 (1048576 - ((len0 : Nat) : Int)), Value.int IntKind.i64 (1048576 - ((len0 : Nat) : Int)), Value.bool (decide (1048576 - ((len0 : Nat) : Int) < 0)), ha 14, ha 15, ha 16, ha 17, ha 18, Value.agg #[Value.slice a0 len0 cap0], Value.agg #[Value.slice (some { block := g_3, off := 0 }) len0 len0], hb 21, hb 22, hb 23, hb 24, Value.int IntKind.i64 (mostV len0 (List.take len0 z0) a1_0 a1_1 a1_2), Value.int IntKind.i64 (mostV len0 (List.take len0 z0) a1_0 a1_1 a1_2), Value.bool false, f 28, f 29, f 30, f 31, f 32], []⟩ v1 from H _ fun _ _ h => h
    intro K hK
    rcases (by omega : i = 0 ∨ i = 1 ∨ i = 2 ∨ i = 3 ∨ i = 4) with rfl | rfl | rfl | rfl | rfl
    · obtain rfl := Option.some.inj ho
      refine wpOp_plain rfl rfl ?_
      unfold Oper.wp
      go_simp
      exact hK _ _ ⟨⟨⟨updf f 28 (.agg #[.slice (some ⟨g_3, 0, none⟩) len0 len0]), rfl⟩, hin⟩, rfl, fun j hj hw hf => by
          rcases j with _ | _ | _ | _ | _ | j
          all_goals first | exact absurd rfl hj | exact hf | rfl⟩
    · obtain rfl := Option.some.inj ho
      refine wpOp_plain rfl rfl ?_
      unfold Oper.wp
      go_simp
      exact hK _ _ ⟨⟨⟨updf f 29 (.agg #[.slice a0 len0 cap0]), rfl⟩, hin⟩, rfl, fun j hj hw hf => by
          rcases j with _ | _ | _ | _ | _ | j
          all_goals first | exact absurd rfl hj | exact hf | rfl⟩
    · obtain rfl := Option.some.inj ho
      have f1 := haf { on := 1, ground := .data } (by simp) rfl
      have f1 : _ = _ := Option.some.inj f1
      refine wpOp_plain rfl rfl ?_
      unfold Oper.wp
      go_simp
      refine (toStock_c a0 len0 cap0 (z0.take len0) _ (by omega) (R0.out.below ((IC.out.trans j_5).trans hin).below (Nat.le_refl _))).mono ?_
      rintro _ v2 ⟨g2, rfl, ho2, hg2, hb2⟩
      exact hK _ _ ⟨⟨⟨updf f 30 (.agg #[.slice (some ⟨g2, 0, none⟩) len0 len0]), rfl⟩, hin.step hb2⟩, ⟨g2, Nat.le_trans (Nat.le_trans hBl_5 hin.size) hg2, rfl, ho2⟩, fun j hj hw hf => by
          rcases j with _ | _ | _ | _ | _ | j
          all_goals first | exact absurd rfl hj | exact hf | rfl | (obtain ⟨g, c, h0, h1, h2⟩ := hf; exact ⟨g, c, h0, h1, h2.step hb2⟩) | (obtain ⟨g, h0, h1, h2⟩ := hf; exact ⟨g, h0, h1, h2.step hb2⟩) | (obtain ⟨gs, X, h0, h1, h2⟩ := hf; exact ⟨gs, X, h0, h1, h2.step hb2⟩) | (obtain ⟨gs, g, c, h0, h1, h2, h3, h4⟩ := hf; exact ⟨gs, g, c, h0, h1, h2.step hb2, h3, h4.step hb2⟩)⟩
    · obtain rfl := Option.some.inj ho
      have f0 := haf { on := 0, ground := .data } (by simp) rfl
      have f0 : _ = _ := Option.some.inj f0
      obtain ⟨g_2, hb2, f2, ho2⟩ := haf { on := 2, ground := .data } (by simp) rfl
      have f2 : _ = _ := Option.some.inj f2
      refine wpOp_plain rfl rfl ?_
      unfold Oper.wp
      go_simp
      refine (eqStock_c (some ⟨g_3, 0, none⟩) (some ⟨g_2, 0, none⟩) (len0) len0 len0 (z0.take len0) _ (by (try unfold maxLen); omega) (ov_X1.reads) (ho2.reads)).mono ?_
      rintro _ v2 ⟨rfl, hb2⟩
      exact hK _ _ ⟨⟨⟨updf f 31 (.bool true), rfl⟩, hin.step hb2⟩, rfl, fun j hj hw hf => by
          rcases j with _ | _ | _ | _ | _ | j
          all_goals first | exact absurd rfl hj | exact hf | rfl | (obtain ⟨g, c, h0, h1, h2⟩ := hf; exact ⟨g, c, h0, h1, h2.step hb2⟩) | (obtain ⟨g, h0, h1, h2⟩ := hf; exact ⟨g, h0, h1, h2.step hb2⟩) | (obtain ⟨gs, X, h0, h1, h2⟩ := hf; exact ⟨gs, X, h0, h1, h2.step hb2⟩) | (obtain ⟨gs, g, c, h0, h1, h2, h3, h4⟩ := hf; exact ⟨gs, g, c, h0, h1, h2.step hb2, h3, h4.step hb2⟩)⟩
    · obtain rfl := Option.some.inj ho
      have f3 := haf { on := 3, ground := .data } (by simp) rfl
      have f3 : _ = _ := Option.some.inj f3
      refine wpOp_plain rfl rfl ?_
      unfold Oper.wp
      go_simp
      exact hK _ _ ⟨⟨⟨updf f 32 (.bool false), rfl⟩, hin⟩, rfl, fun j hj hw hf => by
          rcases j with _ | _ | _ | _ | _ | j
          all_goals first | exact absurd rfl hj | exact hf | rfl⟩
  intro a w_6 hI hF
  obtain ⟨⟨hc, rfl⟩, hn_6⟩ := hI
  have hb_6 := hn_6.below
  have he_6_32 : hc 32 = _ := Option.some.inj (hF 4 (by decide))
  clear hF
  rw [he_6_32]
  clear he_6_32
  have j_6 : In w_2.heap.size w_2 w_6 := In.step (by (repeat (first | exact In.refl _ | assumption | apply In.alloc | apply In.drewN | apply In.drew | (refine In.step ?_ (by assumption))))) hb_6
  have k_6_p0 : Blk w_6 (b_p0) 24 #[.slice a0 len0 cap0] := Blk.step (by (with_reducible (repeat (first | assumption | exact Blk.new' (by simp) | apply Blk.drewN | apply Blk.drew | apply Blk.alloc | (refine Blk.far ?_ (by (try simp) <;> omega) _))))) hb_6
  have c_6_p0_0 : w_6.cell? ⟨b_p0, 0, none⟩ = some (.slice a0 len0 cap0) := k_6_p0.cell 0
  have l_6_p0 := k_6_p0.lt
  have k_6_p1 : Blk w_6 (b_p1) 32 #[.int .i64 a1_0, .int .i64 a1_1, .int .i64 a1_2] := Blk.step (by (with_reducible (repeat (first | assumption | exact Blk.new' (by simp) | apply Blk.drewN | apply Blk.drew | apply Blk.alloc | (refine Blk.far ?_ (by (try simp) <;> omega) _))))) hb_6
  have c_6_p1_0 : w_6.cell? ⟨b_p1, 0, none⟩ = some (.int .i64 a1_0) := k_6_p1.cell 0
  have c_6_p1_1 : w_6.cell? ⟨b_p1, 1, none⟩ = some (.int .i64 a1_1) := k_6_p1.cell 1
  have c_6_p1_2 : w_6.cell? ⟨b_p1, 2, none⟩ = some (.int .i64 a1_2) := k_6_p1.cell 2
  have l_6_p1 := k_6_p1.lt
  have k_6_l1 : Blk w_6 (b_l1) 27 #[.slice (some ⟨g_3, 0, none⟩) len0 len0] := Blk.step (by (with_reducible (repeat (first | assumption | exact Blk.new' (by simp) | apply Blk.drewN | apply Blk.drew | apply Blk.alloc | (refine Blk.far ?_ (by (try simp) <;> omega) _))))) hb_6
  have c_6_l1_0 : w_6.cell? ⟨b_l1, 0, none⟩ = some (.slice (some ⟨g_3, 0, none⟩) len0 len0) := k_6_l1.cell 0
  have l_6_l1 := k_6_l1.lt
  have o_6_X1 : OwnC w_6 g_3 (len0) len0 (z0.take len0) := OwnC.step (by (with_reducible (repeat (first | assumption | apply OwnC.drewN | apply OwnC.drew | apply OwnC.alloc)))) hb_6
  clear j_5 k_5_p0 c_5_p0_0 l_5_p0 k_5_p1 c_5_p1_0 c_5_p1_1 c_5_p1_2 l_5_p1 k_5_l1 c_5_l1_0 l_5_l1 o_5_X1 hb_5
  clear hn_6
  clear hBl_5 hBg_5
  go_wp2
  go_ret
  exact (show Val _ _ _ _ from Val.mk' rfl (IC.out.trans (by (repeat (first | exact In.refl _ | assumption | apply In.alloc | apply In.drewN | apply In.drew | (refine In.step ?_ (by assumption)))))))
end Go.Proofs.Ythadanmiomeehaa
