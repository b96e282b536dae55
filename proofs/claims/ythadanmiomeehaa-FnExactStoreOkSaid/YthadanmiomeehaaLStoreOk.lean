/- The law of StoreOk. -/
import Derived.Test.YthadanmiomeehaaC36
import Derived.Test.YthadanmiomeehaaInv
namespace Go.Proofs.Ythadanmiomeehaa
open Go.ChangeShapes Go.WideShapes Go.ChangeAt Go.RowKit
set_option linter.unusedVariables false
set_option linter.unusedSimpArgs false
def updf (f : Nat → Value) (k : Nat) (v : Value) : Nat → Value := fun j => if j = k then v else f j
def JIStoreOka (w0 : World) (a0 : Option Addr) (len0 : Nat) (cap0 : Nat) (z0 : List Int) (b_p0 : Nat) (g_2 : Nat) (g_4 : Nat) (b_l1 : Nat) (a : Act) (w : World) : Prop := (∃ f : Nat → Value, a = ⟨#[Value.agg #[Value.slice a0 len0 cap0], Value.pointer (some { block := b_p0, off := 0 }), Value.bool false, Value.int IntKind.i64 (1048576 - ((len0 : Nat) : Int)), Value.bool (stB len0 (List.take len0 z0)), Value.pointer (some { block := b_l1, off := 0 }), Value.bool (stB len0 (List.take len0 z0)), Value.agg #[Value.slice a0 len0 cap0], Value.int IntKind.i64 1048576, Value.int IntKind.i64 (1048576 - ((len0 : Nat) : Int)), Value.int IntKind.i64 (1048576 - ((len0 : Nat) : Int)), Value.bool (decide (1048576 - ((len0 : Nat) : Int) < 0)), Value.agg #[Value.slice a0 len0 cap0], Value.agg #[Value.slice (some { block := g_2, off := 0 }) len0 len0], Value.bool (stB len0 (List.take len0 z0)), Value.agg #[Value.slice a0 len0 cap0], Value.agg #[Value.slice (some { block := g_4, off := 0 }) len0 len0], Value.agg #[Value.slice (some { block := g_4, off := 0 }) len0 len0], Value.bool (stB len0 (List.take len0 z0)), Value.bool (stB len0 (List.take len0 z0)), Value.bool (stB len0 (List.take len0 z0)), Value.bool false, f 22, f 23, f 24, f 25, f 26], []⟩) ∧ In w0.heap.size w0 w
def JFStoreOka (B : Nat) (a0 : Option Addr) (len0 : Nat) (cap0 : Nat) (z0 : List Int) (b_p0 : Nat) (g_2 : Nat) (g_4 : Nat) (b_l1 : Nat) : Nat → Act → World → Prop
  | 0, a, w => a.tmps[22]? = some (.agg #[.slice (some ⟨g_4, 0, none⟩) len0 len0])
  | 1, a, w => a.tmps[23]? = some (.agg #[.slice a0 len0 cap0])
  | 2, a, w => ∃ g, B ≤ g ∧ a.tmps[24]? = some (.agg #[.slice (some ⟨g, 0, none⟩) len0 len0]) ∧ OwnC w g (len0) len0 (z0.take len0)
  | 3, a, w => a.tmps[25]? = some (.bool true)
  | 4, a, w => a.tmps[26]? = some (.bool false)
  | _, _, _ => True
set_option maxHeartbeats 4000000 in
theorem walk_FnExactStoreOk (a0 : Option Addr) (len0 cap0 : Nat) (z0 : List Int) (w : World) (w0 : IsRow .i64 w a0 len0 cap0 z0) :
    Calls Try.prog 3 #[.agg #[.slice a0 len0 cap0]] w fun e w' => e = .returned (.bool true) ∧ Below w.heap.size w w' := by
  have R0 := Lib.hid (reads_row w0)
  have m0 := row_le w0
  clear w0
  by_cases g0 : (1048576 : Int) < (len0 : Int)
  · go_enter Try.func3, Try.ntmps3
    go_wp2_with fail
    refine (szStock_c a0 len0 cap0 1048576 _ m0 (by omega) (by omega)).mono ?_
    rintro _ w_1 ⟨rfl, hb_1⟩
    rw [if_pos (by omega)]
    have i_1 : In w.heap.size w w_1 := In.step (by (repeat (first | exact In.refl _ | assumption | apply In.alloc | apply In.drewN | apply In.drew | (refine In.step ?_ (by assumption))))) hb_1
    go_wp2
    go_ret
    exact (show Val _ _ _ _ from Val.mk' rfl (by (repeat (first | exact In.refl _ | assumption | apply In.alloc | apply In.drewN | apply In.drew | (refine In.step ?_ (by assumption))))))
  have g0' : (len0 : Int) ≤ 1048576 := by omega
  clear g0
  have hm0 : len0 ≤ 1048576 := by omega
  obtain ⟨b_p0, hbx_p0⟩ : ∃ b, b = w.heap.size := ⟨_, rfl⟩
  have kk_p0 : Blk (w.alloc (.cells #[.slice a0 len0 cap0] 24)) b_p0 24 #[.slice a0 len0 cap0] := (Blk.new' (w := w) (t := 24) (cs := #[.slice a0 len0 cap0]) (g := b_p0) (by simp [hbx_p0]))
  have hb_0 : Below w.heap.size w (w.alloc (.cells #[.slice a0 len0 cap0] 24)) := by
    have h : In w.heap.size w (w.alloc (.cells #[.slice a0 len0 cap0] 24)) := by (repeat (first | exact In.refl _ | assumption | apply In.alloc | apply In.drewN | apply In.drew | (refine In.step ?_ (by assumption))))
    exact h.below
  go_enter Try.func3, Try.ntmps3
  go_wp2_with fail
  rw [← hbx_p0]
  clear hbx_p0
  generalize (w.alloc (.cells #[.slice a0 len0 cap0] 24)) = w_0 at *
  have i_0 : In w.heap.size w w_0 := In.step (by (repeat (first | exact In.refl _ | assumption | apply In.alloc | apply In.drewN | apply In.drew | (refine In.step ?_ (by assumption))))) hb_0
  have k_0_p0 : Blk w_0 (b_p0) 24 #[.slice a0 len0 cap0] := kk_p0
  have c_0_p0_0 : w_0.cell? ⟨b_p0, 0, none⟩ = some (.slice a0 len0 cap0) := k_0_p0.cell 0
  clear kk_p0
  go_wp2_with fail
  refine (szStock_c a0 len0 cap0 1048576 _ m0 (by omega) (by omega)).mono ?_
  rintro _ w_1 ⟨rfl, hb_1⟩
  rw [if_neg (by omega)]
  have i_1 : In w.heap.size w w_1 := In.step (by (repeat (first | exact In.refl _ | assumption | apply In.alloc | apply In.drewN | apply In.drew | (refine In.step ?_ (by assumption))))) hb_1
  have k_1_p0 : Blk w_1 (b_p0) 24 #[.slice a0 len0 cap0] := Blk.step (by (with_reducible (repeat (first | assumption | exact Blk.new' (by simp) | apply Blk.drewN | apply Blk.drew | apply Blk.alloc | (refine Blk.far ?_ (by (try simp) <;> omega) _))))) hb_1
  have c_1_p0_0 : w_1.cell? ⟨b_p0, 0, none⟩ = some (.slice a0 len0 cap0) := k_1_p0.cell 0
  clear i_0 k_0_p0 c_0_p0_0 hb_0
  go_wp2_with fail
  refine (toStock_c a0 len0 cap0 (z0.take len0) _ (by omega) (by exact R0.out.below (In.below (by (repeat (first | exact In.refl _ | assumption | apply In.alloc | apply In.drewN | apply In.drew | (refine In.step ?_ (by assumption)))))) (Nat.le_refl _))).mono ?_
  rintro _ w_2 ⟨g_2, rfl, ho_2, hg_2, hb_2⟩
  have o_2_X1 : OwnC w_2 g_2 (len0) len0 (z0.take len0) := ho_2
  clear ho_2 hg_2
  have i_2 : In w.heap.size w w_2 := In.step (by (repeat (first | exact In.refl _ | assumption | apply In.alloc | apply In.drewN | apply In.drew | (refine In.step ?_ (by assumption))))) hb_2
  have k_2_p0 : Blk w_2 (b_p0) 24 #[.slice a0 len0 cap0] := Blk.step (by (with_reducible (repeat (first | assumption | exact Blk.new' (by simp) | apply Blk.drewN | apply Blk.drew | apply Blk.alloc | (refine Blk.far ?_ (by (try simp) <;> omega) _))))) hb_2
  have c_2_p0_0 : w_2.cell? ⟨b_p0, 0, none⟩ = some (.slice a0 len0 cap0) := k_2_p0.cell 0
  clear i_1 k_1_p0 c_1_p0_0 hb_1
  go_wp2_with fail
  refine (sStoreOk (some ⟨g_2, 0, none⟩) (len0) len0 (z0.take len0) _ (by (try unfold maxLen); omega) (by exact OwnC.reads (by (with_reducible (repeat (first | assumption | apply OwnC.drewN | apply OwnC.drew | apply OwnC.alloc)))))).mono ?_
  rintro _ w_3 ⟨rfl, hb_3⟩
  have i_3 : In w.heap.size w w_3 := In.step (by (repeat (first | exact In.refl _ | assumption | apply In.alloc | apply In.drewN | apply In.drew | (refine In.step ?_ (by assumption))))) hb_3
  have k_3_p0 : Blk w_3 (b_p0) 24 #[.slice a0 len0 cap0] := Blk.step (by (with_reducible (repeat (first | assumption | exact Blk.new' (by simp) | apply Blk.drewN | apply Blk.drew | apply Blk.alloc | (refine Blk.far ?_ (by (try simp) <;> omega) _))))) hb_3
  have c_3_p0_0 : w_3.cell? ⟨b_p0, 0, none⟩ = some (.slice a0 len0 cap0) := k_3_p0.cell 0
  clear i_2 k_2_p0 c_2_p0_0 o_2_X1 hb_2
  have IC := Lib.hid i_3
  have j_3 : In w_3.heap.size w_3 w_3 := In.refl _
  go_wp2_with fail
  refine (toStock_c a0 len0 cap0 (z0.take len0) _ (by omega) (by exact R0.out.below (In.below (IC.out.trans (by (repeat (first | exact In.refl _ | assumption | apply In.alloc | apply In.drewN | apply In.drew | (refine In.step ?_ (by assumption))))))) (Nat.le_refl _))).mono ?_
  rintro _ w_4 ⟨g_4, rfl, ho_4, hg_4, hb_4⟩
  have GX_X2 : Hid (w_3.heap.size ≤ g_4) := Lib.hid (by have h1 := hg_4; (try simp at h1); have h2 := In.size j_3; omega)
  have o_4_X2 : OwnC w_4 g_4 (len0) len0 (z0.take len0) := ho_4
  clear ho_4 hg_4
  have j_4 : In w_3.heap.size w_3 w_4 := In.step (by (repeat (first | exact In.refl _ | assumption | apply In.alloc | apply In.drewN | apply In.drew | (refine In.step ?_ (by assumption))))) hb_4
  have k_4_p0 : Blk w_4 (b_p0) 24 #[.slice a0 len0 cap0] := Blk.step (by (with_reducible (repeat (first | assumption | exact Blk.new' (by simp) | apply Blk.drewN | apply Blk.drew | apply Blk.alloc | (refine Blk.far ?_ (by (try simp) <;> omega) _))))) hb_4
  have c_4_p0_0 : w_4.cell? ⟨b_p0, 0, none⟩ = some (.slice a0 len0 cap0) := k_4_p0.cell 0
  clear i_3 k_3_p0 c_3_p0_0 hb_3 j_3
  go_wp2_with fail
  obtain ⟨b_l1, hbx_l1⟩ : ∃ b, b = w_4.heap.size := ⟨_, rfl⟩
  rw [← hbx_l1]
  have hb_5 : Below w_4.heap.size w_4 (w_4.alloc (.cells #[.slice (some ⟨g_4, 0, none⟩) len0 len0] 27)) := (Below.refl _ _).alloc (Nat.le_refl _) _
  have kk_5 : Blk (w_4.alloc (.cells #[.slice (some ⟨g_4, 0, none⟩) len0 len0] 27)) b_l1 27 #[.slice (some ⟨g_4, 0, none⟩) len0 len0] := Blk.new' hbx_l1
  clear hbx_l1
  generalize (w_4.alloc (.cells #[.slice (some ⟨g_4, 0, none⟩) len0 len0] 27)) = w_5 at *
  have j_5 : In w_3.heap.size w_3 w_5 := In.step (by (repeat (first | exact In.refl _ | assumption | apply In.alloc | apply In.drewN | apply In.drew | (refine In.step ?_ (by assumption))))) hb_5
  have k_5_p0 : Blk w_5 (b_p0) 24 #[.slice a0 len0 cap0] := Blk.step (by (with_reducible (repeat (first | assumption | exact Blk.new' (by simp) | apply Blk.drewN | apply Blk.drew | apply Blk.alloc | (refine Blk.far ?_ (by (try simp) <;> omega) _))))) hb_5
  have c_5_p0_0 : w_5.cell? ⟨b_p0, 0, none⟩ = some (.slice a0 len0 cap0) := k_5_p0.cell 0
  have k_5_l1 : Blk w_5 (b_l1) 27 #[.slice (some ⟨g_4, 0, none⟩) len0 len0] := kk_5
  have c_5_l1_0 : w_5.cell? ⟨b_l1, 0, none⟩ = some (.slice (some ⟨g_4, 0, none⟩) len0 len0) := k_5_l1.cell 0
  have o_5_X2 : OwnC w_5 g_4 (len0) len0 (z0.take len0) := OwnC.step (by (with_reducible (repeat (first | assumption | apply OwnC.drewN | apply OwnC.drew | apply OwnC.alloc)))) hb_5
  clear j_4 k_4_p0 c_4_p0_0 o_4_X2 hb_4
  clear kk_5
  go_wp2_with fail
  refine (iStoreOk (some ⟨g_4, 0, none⟩) (len0) len0 (z0.take len0) _ (by (try unfold maxLen); omega) (by exact OwnC.reads (by (with_reducible (repeat (first | assumption | apply OwnC.drewN | apply OwnC.drew | apply OwnC.alloc)))))).mono ?_
  rintro _ w_6 ⟨rfl, hb_6⟩
  have j_6 : In w_3.heap.size w_3 w_6 := In.step (by (repeat (first | exact In.refl _ | assumption | apply In.alloc | apply In.drewN | apply In.drew | (refine In.step ?_ (by assumption))))) hb_6
  have k_6_p0 : Blk w_6 (b_p0) 24 #[.slice a0 len0 cap0] := Blk.step (by (with_reducible (repeat (first | assumption | exact Blk.new' (by simp) | apply Blk.drewN | apply Blk.drew | apply Blk.alloc | (refine Blk.far ?_ (by (try simp) <;> omega) _))))) hb_6
  have c_6_p0_0 : w_6.cell? ⟨b_p0, 0, none⟩ = some (.slice a0 len0 cap0) := k_6_p0.cell 0
  have k_6_l1 : Blk w_6 (b_l1) 27 #[.slice (some ⟨g_4, 0, none⟩) len0 len0] := Blk.step (by (with_reducible (repeat (first | assumption | exact Blk.new' (by simp) | apply Blk.drewN | apply Blk.drew | apply Blk.alloc | (refine Blk.far ?_ (by (try simp) <;> omega) _))))) hb_6
  have c_6_l1_0 : w_6.cell? ⟨b_l1, 0, none⟩ = some (.slice (some ⟨g_4, 0, none⟩) len0 len0) := k_6_l1.cell 0
  have o_6_X2 : OwnC w_6 g_4 (len0) len0 (z0.take len0) := OwnC.step (by (with_reducible (repeat (first | assumption | apply OwnC.drewN | apply OwnC.drew | apply OwnC.alloc)))) hb_6
  clear j_5 k_5_p0 c_5_p0_0 k_5_l1 c_5_l1_0 o_5_X2 hb_5
  go_wp2_with fail
  have hBw_6 : w_6.heap.size ≤ w_6.heap.size := Nat.le_refl _
  obtain ⟨B_6, hB_6⟩ : ∃ B, B = w_6.heap.size := ⟨_, rfl⟩
  have hBl_6 : B_6 ≤ w_6.heap.size := by omega
  have hBg_6 : w_6.heap.size ≤ B_6 := by omega
  clear hBw_6 hB_6
  refine wp_region_facts (JIStoreOka w_6 a0 len0 cap0 z0 b_p0 g_2 g_4 b_l1) (JFStoreOka B_6 a0 len0 cap0 z0 b_p0 g_2 g_4 b_l1) (by kernel_rfl) (by kernel_rfl) ⟨⟨fun _ => undef, rfl⟩, (In.refl _).drew⟩ ?_ ?_
  · intro a v1 i o ho hI haf
    obtain ⟨⟨f, rfl⟩, hin⟩ := hI
    have kv_p0 : Blk v1 (b_p0) 24 #[.slice a0 len0 cap0] := Blk.step k_6_p0 hin.below
    have cv_p0_0 := kv_p0.cell 0
    have kv_l1 : Blk v1 (b_l1) 27 #[.slice (some ⟨g_4, 0, none⟩) len0 len0] := Blk.step k_6_l1 hin.below
    have cv_l1_0 := kv_l1.cell 0
    have ov_X2 : OwnC v1 g_4 (len0) len0 (z0.take len0) := OwnC.step o_6_X2 hin.below
    have hi : i < 5 := by
      rcases Nat.lt_or_ge i 5 with h | h
      · exact h
      · simp [h] at ho
    suffices H : ∀ K : Act → World → Prop, (∀ a' w', ((JIStoreOka w_6 a0 len0 cap0 z0 b_p0 g_2 g_4 b_l1) a' w' ∧ (JFStoreOka B_6 a0 len0 cap0 z0 b_p0 g_2 g_4 b_l1) i a' w' ∧ ∀ j, j ≠ i → waitsB _ j i = false → (JFStoreOka B_6 a0 len0 cap0 z0 b_p0 g_2 g_4 b_l1) j ⟨#[Value.agg #[Value.slice a0 len0 cap0], Value.pointer (some { block := b_p0, off := 0 }), Value.bool false, Value.int IntKind.i64 (1048576 - ((len0 : Nat) : Int)), Value.bool (stB len0 (List.take len0 z0)), Value.pointer (some { block := b_l1, off := 0 }), Value.bool (stB len0 (List.take len0 z0)), Value.agg #[Value.slice a0 len0 cap0], Value.int IntKind.i64 1048576, Value.int IntKind.i64 (1048576 - ((len0 : Nat) : Int)), Value.int IntKind.i64 (1048576 - ((len0 : Nat) : Int)), Value.bool (decide (1048576 - ((len0 : Nat) : Int) < 0)), Value.agg #[Value.slice a0 len0 cap0], Value.agg #[Value.slice (some { block := g_2, off := 0 }) len0 len0], Value.bool (stB len0 (List.take len0 z0)), Value.agg #[Value.slice a0 len0 cap0], Value.agg #[Value.slice (some { block := g_4, off := 0 }) len0 len0], Value.agg #[Value.slice (some { block := g_4, off := 0 }) len0 len0], Value.bool (stB len0 (List.take len0 z0)), Value.bool (stB len0 (List.take len0 z0)), Value.bool (stB len0 (List.take len0 z0)), Value.bool false, f 22, f 23, f 24, f 25, f 26], []⟩ v1 → (JFStoreOka B_6 a0 len0 cap0 z0 b_p0 g_2 g_4 b_l1) j a' w') → K a' w') → wpOp _ _ _ i K ⟨#[Value.agg #[Value.slice a0 len0 cap0], Value.pointer (some { block := b_p0, off := 0 }), Value.bool false, Value.int IntKind.i64 (1048576 - ((len0 : Nat) : Int)), Value.bool (stB len0 (List.take len0 z0)), Value.pointer (some { block := b_l1, off := 0 }), Value.bool (stB len0 (List.take len0 z0)), Value.agg #[Value.slice a0 len0 cap0], Value.int IntKind.i64 1048576, Value.int IntKind.i64 (1048576 - ((len0 : Nat) : Int)), Value.int IntKind.i64 (1048576 - ((len0 : Nat) : Int)), Value.bool (decide (1048576 - ((len0 : Nat) : Int) < 0)), Value.agg #[Value.slice a0 len0 cap0], Value.agg #[Value.slice (some { block := g_2, off := 0 }) len0 len0], Value.bool (stB len0 (List.take len0 z0)), Value.agg #[Value.slice a0 len0 cap0], Value.agg #[Value.slice (some { block := g_4, off := 0 }) len0 len0], Value.agg #[Value.slice (some { block := g_4, off := 0 }) len0 len0], Value.bool (stB len0 (List.take len0 z0)), Value.bool (stB len0 (List.take len0 z0)), Value.bool (stB len0 (List.take len0 z0)), Value.bool false, f 22, f 23, f 24, f 25, f 26], []⟩ v1 from H _ fun _ _ h => h
    intro K hK
    rcases (by omega : i = 0 ∨ i = 1 ∨ i = 2 ∨ i = 3 ∨ i = 4) with rfl | rfl | rfl | rfl | rfl
    · obtain rfl := Option.some.inj ho
      refine wpOp_plain rfl rfl ?_
      unfold Oper.wp
      go_simp
      exact hK _ _ ⟨⟨⟨updf f 22 (.agg #[.slice (some ⟨g_4, 0, none⟩) len0 len0]), rfl⟩, hin⟩, rfl, fun j hj hw hf => by
          rcases j with _ | _ | _ | _ | _ | j
          all_goals first | exact absurd rfl hj | exact hf | rfl⟩
    · obtain rfl := Option.some.inj ho
      refine wpOp_plain rfl rfl ?_
      unfold Oper.wp
      go_simp
      exact hK _ _ ⟨⟨⟨updf f 23 (.agg #[.slice a0 len0 cap0]), rfl⟩, hin⟩, rfl, fun j hj hw hf => by
          rcases j with _ | _ | _ | _ | _ | j
          all_goals first | exact absurd rfl hj | exact hf | rfl⟩
    · obtain rfl := Option.some.inj ho
      have f1 := haf { on := 1, ground := .data } (by simp) rfl
      have f1 : _ = _ := Option.some.inj f1
      refine wpOp_plain rfl rfl ?_
      unfold Oper.wp
      go_simp
      refine (toStock_c a0 len0 cap0 (z0.take len0) _ (by omega) (R0.out.below ((IC.out.trans j_6).trans hin).below (Nat.le_refl _))).mono ?_
      rintro _ v2 ⟨g2, rfl, ho2, hg2, hb2⟩
      exact hK _ _ ⟨⟨⟨updf f 24 (.agg #[.slice (some ⟨g2, 0, none⟩) len0 len0]), rfl⟩, hin.step hb2⟩, ⟨g2, Nat.le_trans (Nat.le_trans hBl_6 hin.size) hg2, rfl, ho2⟩, fun j hj hw hf => by
          rcases j with _ | _ | _ | _ | _ | j
          all_goals first | exact absurd rfl hj | exact hf | rfl | (obtain ⟨g, c, h0, h1, h2⟩ := hf; exact ⟨g, c, h0, h1, h2.step hb2⟩) | (obtain ⟨g, h0, h1, h2⟩ := hf; exact ⟨g, h0, h1, h2.step hb2⟩) | (obtain ⟨gs, X, h0, h1, h2⟩ := hf; exact ⟨gs, X, h0, h1, h2.step hb2⟩) | (obtain ⟨gs, g, c, h0, h1, h2, h3, h4⟩ := hf; exact ⟨gs, g, c, h0, h1, h2.step hb2, h3, h4.step hb2⟩)⟩
    · obtain rfl := Option.some.inj ho
      have f0 := haf { on := 0, ground := .data } (by simp) rfl
      have f0 : _ = _ := Option.some.inj f0
      obtain ⟨g_2, hb2, f2, ho2⟩ := haf { on := 2, ground := .data } (by simp) rfl
      have f2 : _ = _ := Option.some.inj f2
      refine wpOp_plain rfl rfl ?_
      unfold Oper.wp
      go_simp
      refine (eqStock_c (some ⟨g_4, 0, none⟩) (some ⟨g_2, 0, none⟩) (len0) len0 len0 (z0.take len0) _ (by (try unfold maxLen); omega) (ov_X2.reads) (ho2.reads)).mono ?_
      rintro _ v2 ⟨rfl, hb2⟩
      exact hK _ _ ⟨⟨⟨updf f 25 (.bool true), rfl⟩, hin.step hb2⟩, rfl, fun j hj hw hf => by
          rcases j with _ | _ | _ | _ | _ | j
          all_goals first | exact absurd rfl hj | exact hf | rfl | (obtain ⟨g, c, h0, h1, h2⟩ := hf; exact ⟨g, c, h0, h1, h2.step hb2⟩) | (obtain ⟨g, h0, h1, h2⟩ := hf; exact ⟨g, h0, h1, h2.step hb2⟩) | (obtain ⟨gs, X, h0, h1, h2⟩ := hf; exact ⟨gs, X, h0, h1, h2.step hb2⟩) | (obtain ⟨gs, g, c, h0, h1, h2, h3, h4⟩ := hf; exact ⟨gs, g, c, h0, h1, h2.step hb2, h3, h4.step hb2⟩)⟩
    · obtain rfl := Option.some.inj ho
      have f3 := haf { on := 3, ground := .data } (by simp) rfl
      have f3 : _ = _ := Option.some.inj f3
      refine wpOp_plain rfl rfl ?_
      unfold Oper.wp
      go_simp
      exact hK _ _ ⟨⟨⟨updf f 26 (.bool false), rfl⟩, hin⟩, rfl, fun j hj hw hf => by
          rcases j with _ | _ | _ | _ | _ | j
          all_goals first | exact absurd rfl hj | exact hf | rfl⟩
  intro a w_7 hI hF
  obtain ⟨⟨ha, rfl⟩, hn_7⟩ := hI
  have hb_7 := hn_7.below
  have he_7_26 : ha 26 = _ := Option.some.inj (hF 4 (by decide))
  clear hF
  rw [he_7_26]
  clear he_7_26
  have j_7 : In w_3.heap.size w_3 w_7 := In.step (by (repeat (first | exact In.refl _ | assumption | apply In.alloc | apply In.drewN | apply In.drew | (refine In.step ?_ (by assumption))))) hb_7
  have k_7_p0 : Blk w_7 (b_p0) 24 #[.slice a0 len0 cap0] := Blk.step (by (with_reducible (repeat (first | assumption | exact Blk.new' (by simp) | apply Blk.drewN | apply Blk.drew | apply Blk.alloc | (refine Blk.far ?_ (by (try simp) <;> omega) _))))) hb_7
  have c_7_p0_0 : w_7.cell? ⟨b_p0, 0, none⟩ = some (.slice a0 len0 cap0) := k_7_p0.cell 0
  have k_7_l1 : Blk w_7 (b_l1) 27 #[.slice (some ⟨g_4, 0, none⟩) len0 len0] := Blk.step (by (with_reducible (repeat (first | assumption | exact Blk.new' (by simp) | apply Blk.drewN | apply Blk.drew | apply Blk.alloc | (refine Blk.far ?_ (by (try simp) <;> omega) _))))) hb_7
  have c_7_l1_0 : w_7.cell? ⟨b_l1, 0, none⟩ = some (.slice (some ⟨g_4, 0, none⟩) len0 len0) := k_7_l1.cell 0
  have o_7_X2 : OwnC w_7 g_4 (len0) len0 (z0.take len0) := OwnC.step (by (with_reducible (repeat (first | assumption | apply OwnC.drewN | apply OwnC.drew | apply OwnC.alloc)))) hb_7
  clear j_6 k_6_p0 c_6_p0_0 k_6_l1 c_6_l1_0 o_6_X2 hb_6
  clear hn_7
  clear hBl_6 hBg_6
  go_wp2
  go_ret
  exact (show Val _ _ _ _ from Val.mk' rfl (IC.out.trans (by (repeat (first | exact In.refl _ | assumption | apply In.alloc | apply In.drewN | apply In.drew | (refine In.step ?_ (by assumption)))))))
end Go.Proofs.Ythadanmiomeehaa
