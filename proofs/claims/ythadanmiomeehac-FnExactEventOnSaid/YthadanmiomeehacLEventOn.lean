/- The law of EventOn. -/
import Derived.Test.YthadanmiomeehacE37
import Derived.Test.YthadanmiomeehacInv
import Derived.Test.YthadanmiomeehacSRack
import Derived.Test.YthadanmiomeehacSEvent
import Derived.Test.YthadanmiomeehacOwnC
namespace Go.Proofs.Ythadanmiomeehac
open Go.ChangeShapes Go.WideShapes Go.ChangeAt Go.RowKit
set_option linter.unusedVariables false
set_option linter.unusedSimpArgs false
def updf (f : Nat → Value) (k : Nat) (v : Value) : Nat → Value := fun j => if j = k then v else f j
def JIEventOna (w0 : World) (a0_0 : Int) (a0_1 : Int) (a0_2 : Int) (a1_0 : Int) (a1_1 : Int) (r0 : Int) (r1 : Int) (r2 : Int) (e0 : Int) (e1 : Int) (e2 : Int) (e3 : Bool) (b_p1 : Nat) (b_p0 : Nat) (a : Act) (w : World) : Prop := (∃ f : Nat → Value, a = ⟨#[Value.agg #[Value.int IntKind.i64 a0_0, Value.int IntKind.i64 a0_1, Value.int IntKind.i64 a0_2], Value.agg #[Value.int IntKind.i64 a1_0, Value.int IntKind.i64 a1_1], Value.pointer (some { block := b_p0, off := 0 }), Value.pointer (some { block := b_p1, off := 0 }), Value.bool false, f 5, f 6, f 7, f 8, f 9, undef, undef, undef, undef, undef, f 15, f 16, f 17, f 18, f 19, f 20, f 21, f 22, f 23, f 24, f 25, undef, undef, undef, undef, undef, undef, undef, undef, undef, undef, undef, undef, undef, undef, undef, undef, undef, undef, undef, undef, undef, undef, undef, undef, undef, undef, undef, undef, undef, undef, undef, undef, undef, undef, undef], []⟩) ∧ In w0.heap.size w0 w
def JFEventOna (B : Nat) (a0_0 : Int) (a0_1 : Int) (a0_2 : Int) (a1_0 : Int) (a1_1 : Int) (r0 : Int) (r1 : Int) (r2 : Int) (e0 : Int) (e1 : Int) (e2 : Int) (e3 : Bool) (b_p1 : Nat) (b_p0 : Nat) : Nat → Act → World → Prop
  | 0, a, w => a.tmps[16]? = some (.agg #[.int .i64 a0_0, .int .i64 a0_1, .int .i64 a0_2])
  | 1, a, w => a.tmps[17]? = some (.agg #[.int .i64 a0_0, .int .i64 a0_1, .int .i64 a0_2])
  | 2, a, w => a.tmps[18]? = some (.agg #[.int .i64 a1_0, .int .i64 a1_1])
  | 3, a, w => a.tmps[19]? = some (.agg #[.int .i64 a1_0, .int .i64 a1_1])
  | 4, a, w => a.tmps[20]? = some (.tuple #[.agg #[.int .i64 r0, .int .i64 r1, .int .i64 r2], .int .i64 e0, .int .i64 e1, .int .i64 e2, .bool e3])
  | 5, a, w => a.tmps[15]? = some (.tuple #[.agg #[.int .i64 r0, .int .i64 r1, .int .i64 r2], .int .i64 e0, .int .i64 e1, .int .i64 e2, .bool e3])
  | 6, a, w => a.tmps[21]? = some (.agg #[.int .i64 r0, .int .i64 r1, .int .i64 r2])
  | 7, a, w => a.tmps[22]? = some (.int .i64 e0)
  | 8, a, w => a.tmps[23]? = some (.int .i64 e1)
  | 9, a, w => a.tmps[24]? = some (.int .i64 e2)
  | 10, a, w => a.tmps[25]? = some (.bool e3)
  | 11, a, w => ∃ gs X0 X1 X2, B ≤ gs ∧ a.tmps[5]? = some (.pointer (some ⟨gs, 0, none⟩)) ∧ Blk w gs 26 #[X0, X1, X2]
  | 12, a, w => ∃ gs, B ≤ gs ∧ a.tmps[5]? = some (.pointer (some ⟨gs, 0, none⟩)) ∧ Blk w gs 26 #[.int .i64 r0, .int .i64 r1, .int .i64 r2]
  | 13, a, w => a.tmps[6]? = some (.int .i64 e0)
  | 14, a, w => a.tmps[7]? = some (.int .i64 e1)
  | 15, a, w => a.tmps[8]? = some (.int .i64 e2)
  | 16, a, w => a.tmps[9]? = some (.bool e3)
  | _, _, _ => True
def JIEventOnb (w0 : World) (a0_0 : Int) (a0_1 : Int) (a0_2 : Int) (a1_0 : Int) (a1_1 : Int) (r0 : Int) (r1 : Int) (r2 : Int) (e0 : Int) (e1 : Int) (e2 : Int) (e3 : Bool) (b_p1 : Nat) (b_p0 : Nat) (ha : Nat → Value) (gs_1 : Nat) (a : Act) (w : World) : Prop := (∃ f : Nat → Value, a = ⟨#[Value.agg #[Value.int IntKind.i64 a0_0, Value.int IntKind.i64 a0_1, Value.int IntKind.i64 a0_2], Value.agg #[Value.int IntKind.i64 a1_0, Value.int IntKind.i64 a1_1], Value.pointer (some { block := b_p0, off := 0 }), Value.pointer (some { block := b_p1, off := 0 }), Value.bool false, Value.pointer (some { block := gs_1, off := 0 }), Value.int IntKind.i64 e0, Value.int IntKind.i64 e1, Value.int IntKind.i64 e2, Value.bool e3, f 10, f 11, f 12, f 13, f 14, ha 15, ha 16, ha 17, ha 18, ha 19, ha 20, ha 21, ha 22, ha 23, ha 24, ha 25, f 26, f 27, f 28, f 29, f 30, f 31, f 32, f 33, f 34, f 35, f 36, undef, undef, undef, undef, undef, undef, undef, undef, undef, undef, undef, undef, undef, undef, undef, undef, undef, undef, undef, undef, undef, undef, undef, undef], []⟩) ∧ In w0.heap.size w0 w
def JFEventOnb (B : Nat) (a0_0 : Int) (a0_1 : Int) (a0_2 : Int) (a1_0 : Int) (a1_1 : Int) (r0 : Int) (r1 : Int) (r2 : Int) (e0 : Int) (e1 : Int) (e2 : Int) (e3 : Bool) (b_p1 : Nat) (b_p0 : Nat) (ha : Nat → Value) (gs_1 : Nat) : Nat → Act → World → Prop
  | 0, a, w => a.tmps[27]? = some (.agg #[.int .i64 a0_0, .int .i64 a0_1, .int .i64 a0_2])
  | 1, a, w => a.tmps[28]? = some (.agg #[.int .i64 a0_0, .int .i64 a0_1, .int .i64 a0_2])
  | 2, a, w => a.tmps[29]? = some (.agg #[.int .i64 a1_0, .int .i64 a1_1])
  | 3, a, w => a.tmps[30]? = some (.agg #[.int .i64 a1_0, .int .i64 a1_1])
  | 4, a, w => a.tmps[31]? = some (.tuple #[.agg #[.int .i64 r0, .int .i64 r1, .int .i64 r2], .int .i64 e0, .int .i64 e1, .int .i64 e2, .bool e3])
  | 5, a, w => a.tmps[26]? = some (.tuple #[.agg #[.int .i64 r0, .int .i64 r1, .int .i64 r2], .int .i64 e0, .int .i64 e1, .int .i64 e2, .bool e3])
  | 6, a, w => a.tmps[32]? = some (.agg #[.int .i64 r0, .int .i64 r1, .int .i64 r2])
  | 7, a, w => a.tmps[33]? = some (.int .i64 e0)
  | 8, a, w => a.tmps[34]? = some (.int .i64 e1)
  | 9, a, w => a.tmps[35]? = some (.int .i64 e2)
  | 10, a, w => a.tmps[36]? = some (.bool e3)
  | 11, a, w => ∃ gs X0 X1 X2, B ≤ gs ∧ a.tmps[10]? = some (.pointer (some ⟨gs, 0, none⟩)) ∧ Blk w gs 26 #[X0, X1, X2]
  | 12, a, w => ∃ gs, B ≤ gs ∧ a.tmps[10]? = some (.pointer (some ⟨gs, 0, none⟩)) ∧ Blk w gs 26 #[.int .i64 r0, .int .i64 r1, .int .i64 r2]
  | 13, a, w => a.tmps[11]? = some (.int .i64 e0)
  | 14, a, w => a.tmps[12]? = some (.int .i64 e1)
  | 15, a, w => a.tmps[13]? = some (.int .i64 e2)
  | 16, a, w => a.tmps[14]? = some (.bool e3)
  | _, _, _ => True
set_option maxHeartbeats 4000000 in
theorem walk_FnExactEventOn (a0_0 : Int) (u0_0 : (Lit.int .i64 a0_0).wf = true) (a0_1 : Int) (u0_1 : (Lit.int .i64 a0_1).wf = true) (a0_2 : Int) (u0_2 : (Lit.int .i64 a0_2).wf = true) (a1_0 : Int) (u1_0 : (Lit.int .i64 a1_0).wf = true) (a1_1 : Int) (u1_1 : (Lit.int .i64 a1_1).wf = true) (w : World)  :
    Calls Try.prog 3 #[.agg #[.int .i64 a0_0, .int .i64 a0_1, .int .i64 a0_2], .agg #[.int .i64 a1_0, .int .i64 a1_1]] w fun e w' => e = .returned (.bool true) ∧ Below w.heap.size w w' := by
  clear u0_0 u0_1 u0_2 u1_0 u1_1
  obtain ⟨r0, r1, r2, e0, e1, e2, e3, hev⟩ : ∃ r0 r1 r2 e0 e1 e2 e3, evT (evR a0_0 a0_1 a0_2 a1_0 a1_1) = .tuple #[.agg #[.int .i64 r0, .int .i64 r1, .int .i64 r2], .int .i64 e0, .int .i64 e1, .int .i64 e2, .bool e3] := ⟨_, _, _, _, _, _, _, rfl⟩
  have HsC : Hid (∀ W : World, Calls Try.prog 9 #[.agg #[.int .i64 a0_0, .int .i64 a0_1, .int .i64 a0_2], .agg #[.int .i64 a1_0, .int .i64 a1_1]] W (Val (.tuple #[.agg #[.int .i64 r0, .int .i64 r1, .int .i64 r2], .int .i64 e0, .int .i64 e1, .int .i64 e2, .bool e3]) W)) := Lib.hid (fun W => by rw [← hev]; exact sEventOn a0_0 a0_1 a0_2 a1_0 a1_1 W)
  have HiC : Hid (∀ W : World, Calls Try.prog 12 #[.agg #[.int .i64 a0_0, .int .i64 a0_1, .int .i64 a0_2], .agg #[.int .i64 a1_0, .int .i64 a1_1]] W (Val (.tuple #[.agg #[.int .i64 r0, .int .i64 r1, .int .i64 r2], .int .i64 e0, .int .i64 e1, .int .i64 e2, .bool e3]) W)) := Lib.hid (fun W => by rw [← hev]; exact iEventOn a0_0 a0_1 a0_2 a1_0 a1_1 W)
  clear hev
  obtain ⟨b_p0, hbx_p0⟩ : ∃ b, b = w.heap.size := ⟨_, rfl⟩
  have kk_p0 : Blk ((w.alloc (.cells #[.int .i64 a0_0, .int .i64 a0_1, .int .i64 a0_2] 23)).alloc (.cells #[.int .i64 a1_0, .int .i64 a1_1] 25)) b_p0 23 #[.int .i64 a0_0, .int .i64 a0_1, .int .i64 a0_2] := ((Blk.new' (w := w) (t := 23) (cs := #[.int .i64 a0_0, .int .i64 a0_1, .int .i64 a0_2]) (g := b_p0) (by simp [hbx_p0])).alloc (.cells #[.int .i64 a1_0, .int .i64 a1_1] 25))
  obtain ⟨b_p1, hbx_p1⟩ : ∃ b, b = w.heap.size + 1 := ⟨_, rfl⟩
  have kk_p1 : Blk ((w.alloc (.cells #[.int .i64 a0_0, .int .i64 a0_1, .int .i64 a0_2] 23)).alloc (.cells #[.int .i64 a1_0, .int .i64 a1_1] 25)) b_p1 25 #[.int .i64 a1_0, .int .i64 a1_1] := (Blk.new' (w := (w.alloc (.cells #[.int .i64 a0_0, .int .i64 a0_1, .int .i64 a0_2] 23))) (t := 25) (cs := #[.int .i64 a1_0, .int .i64 a1_1]) (g := b_p1) (by simp [hbx_p1]))
  have hb_0 : Below w.heap.size w ((w.alloc (.cells #[.int .i64 a0_0, .int .i64 a0_1, .int .i64 a0_2] 23)).alloc (.cells #[.int .i64 a1_0, .int .i64 a1_1] 25)) := by
    have h : In w.heap.size w ((w.alloc (.cells #[.int .i64 a0_0, .int .i64 a0_1, .int .i64 a0_2] 23)).alloc (.cells #[.int .i64 a1_0, .int .i64 a1_1] 25)) := by (repeat (first | exact In.refl _ | assumption | apply In.alloc | apply In.drewN | apply In.drew | (refine In.step ?_ (by assumption))))
    exact h.below
  go_enter Try.func3, Try.ntmps3
  go_wp2_with fail
  rw [← hbx_p1]
  clear hbx_p1
  rw [← hbx_p0]
  clear hbx_p0
  generalize ((w.alloc (.cells #[.int .i64 a0_0, .int .i64 a0_1, .int .i64 a0_2] 23)).alloc (.cells #[.int .i64 a1_0, .int .i64 a1_1] 25)) = w_0 at *
  have i_0 : In w.heap.size w w_0 := In.step (by (repeat (first | exact In.refl _ | assumption | apply In.alloc | apply In.drewN | apply In.drew | (refine In.step ?_ (by assumption))))) hb_0
  have k_0_p0 : Blk w_0 (b_p0) 23 #[.int .i64 a0_0, .int .i64 a0_1, .int .i64 a0_2] := kk_p0
  have c_0_p0_0 : w_0.cell? ⟨b_p0, 0, none⟩ = some (.int .i64 a0_0) := k_0_p0.cell 0
  have c_0_p0_1 : w_0.cell? ⟨b_p0, 1, none⟩ = some (.int .i64 a0_1) := k_0_p0.cell 1
  have c_0_p0_2 : w_0.cell? ⟨b_p0, 2, none⟩ = some (.int .i64 a0_2) := k_0_p0.cell 2
  have l_0_p0 := k_0_p0.lt
  have k_0_p1 : Blk w_0 (b_p1) 25 #[.int .i64 a1_0, .int .i64 a1_1] := kk_p1
  have c_0_p1_0 : w_0.cell? ⟨b_p1, 0, none⟩ = some (.int .i64 a1_0) := k_0_p1.cell 0
  have c_0_p1_1 : w_0.cell? ⟨b_p1, 1, none⟩ = some (.int .i64 a1_1) := k_0_p1.cell 1
  have l_0_p1 := k_0_p1.lt
  clear kk_p0 kk_p1
  go_wp2_with fail
  have hBw_0 : w_0.heap.size ≤ w_0.heap.size := Nat.le_refl _
  obtain ⟨B_0, hB_0⟩ : ∃ B, B = w_0.heap.size := ⟨_, rfl⟩
  have hBl_0 : B_0 ≤ w_0.heap.size := by omega
  have hBg_0 : w_0.heap.size ≤ B_0 := by omega
  clear hBw_0 hB_0
  refine wp_region_facts (JIEventOna w_0 a0_0 a0_1 a0_2 a1_0 a1_1 r0 r1 r2 e0 e1 e2 e3 b_p1 b_p0) (JFEventOna B_0 a0_0 a0_1 a0_2 a1_0 a1_1 r0 r1 r2 e0 e1 e2 e3 b_p1 b_p0) (by kernel_rfl) (by kernel_rfl) ⟨⟨fun _ => undef, rfl⟩, (In.refl _).drew⟩ ?_ ?_
  · intro a v1 i o ho hI haf
    obtain ⟨⟨f, rfl⟩, hin⟩ := hI
    have kv_p0 : Blk v1 (b_p0) 23 #[.int .i64 a0_0, .int .i64 a0_1, .int .i64 a0_2] := Blk.step k_0_p0 hin.below
    have cv_p0_0 := kv_p0.cell 0
    have cv_p0_1 := kv_p0.cell 1
    have cv_p0_2 := kv_p0.cell 2
    have kv_p1 : Blk v1 (b_p1) 25 #[.int .i64 a1_0, .int .i64 a1_1] := Blk.step k_0_p1 hin.below
    have cv_p1_0 := kv_p1.cell 0
    have cv_p1_1 := kv_p1.cell 1
    have hi : i < 17 := by
      rcases Nat.lt_or_ge i 17 with h | h
      · exact h
      · simp [h] at ho
    suffices H : ∀ K : Act → World → Prop, (∀ a' w', ((JIEventOna w_0 a0_0 a0_1 a0_2 a1_0 a1_1 r0 r1 r2 e0 e1 e2 e3 b_p1 b_p0) a' w' ∧ (JFEventOna B_0 a0_0 a0_1 a0_2 a1_0 a1_1 r0 r1 r2 e0 e1 e2 e3 b_p1 b_p0) i a' w' ∧ ∀ j, j ≠ i → waitsB _ j i = false → (JFEventOna B_0 a0_0 a0_1 a0_2 a1_0 a1_1 r0 r1 r2 e0 e1 e2 e3 b_p1 b_p0) j ⟨#[Value.agg #[Value.int IntKind.i64 a0_0, Value.int IntKind.i64 a0_1, Value.int IntKind.i64 a0_2], Value.agg #[Value.int IntKind.i64 a1_0, Value.int IntKind.i64 a1_1], Value.pointer (some { block := b_p0, off := 0 }), Value.pointer (some { block := b_p1, off := 0 }), Value.bool false, f 5, f 6, f 7, f 8, f 9, undef, undef, undef, undef, undef, f 15, f 16, f 17, f 18, f 19, f 20, f 21, f 22, f 23, f 24, f 25, undef, undef, undef, undef, undef, undef, undef, undef, undef, undef, undef, undef, undef, undef, undef, undef, undef, undef, undef, undef, undef, undef, undef, undef, undef, undef, undef, undef, undef, undef, undef, undef, undef, undef, undef], []⟩ v1 → (JFEventOna B_0 a0_0 a0_1 a0_2 a1_0 a1_1 r0 r1 r2 e0 e1 e2 e3 b_p1 b_p0) j a' w') → K a' w') → wpOp _ _ _ i K ⟨#[Value.agg #[Value.int IntKind.i64 a0_0, Value.int IntKind.i64 a0_1, Value.int IntKind.i64 a0_2], Value.agg #[Value.int IntKind.i64 a1_0, Value.int IntKind.i64 a1_1], Value.pointer (some { block := b_p0, off := 0 }), Value.pointer (some { block := b_p1, off := 0 }), Value.bool false, f 5, f 6, f 7, f 8, f 9, undef, undef, undef, undef, undef, f 15, f 16, f 17, f 18, f 19, f 20, f 21, f 22, f 23, f 24, f 25, undef, undef, undef, undef, undef, undef, undef, undef, undef, undef, undef, undef, undef, undef, undef, undef, undef, undef, undef, undef, undef, undef, undef, undef, undef, undef, undef, undef, undef, undef, undef, undef, undef, undef, undef], []⟩ v1 from H _ fun _ _ h => h
    intro K hK
    rcases (by omega : i = 0 ∨ i = 1 ∨ i = 2 ∨ i = 3 ∨ i = 4 ∨ i = 5 ∨ i = 6 ∨ i = 7 ∨ i = 8 ∨ i = 9 ∨ i = 10 ∨ i = 11 ∨ i = 12 ∨ i = 13 ∨ i = 14 ∨ i = 15 ∨ i = 16) with rfl | rfl | rfl | rfl | rfl | rfl | rfl | rfl | rfl | rfl | rfl | rfl | rfl | rfl | rfl | rfl | rfl
    · obtain rfl := Option.some.inj ho
      refine wpOp_plain rfl rfl ?_
      unfold Oper.wp
      go_simp
      exact hK _ _ ⟨⟨⟨updf f 16 (.agg #[.int .i64 a0_0, .int .i64 a0_1, .int .i64 a0_2]), rfl⟩, hin⟩, rfl, fun j hj hw hf => by
          rcases j with _ | _ | _ | _ | _ | _ | _ | _ | _ | _ | _ | _ | _ | _ | _ | _ | _ | j
          all_goals first | exact absurd rfl hj | exact hf | rfl⟩
    · obtain rfl := Option.some.inj ho
      have f0 := haf { on := 0, ground := .data } (by simp) rfl
      have f0 : _ = _ := Option.some.inj f0
      refine wpOp_plain rfl rfl ?_
      unfold Oper.wp
      go_simp
      refine (toRack_c a0_0 a0_1 a0_2 _).mono ?_
      rintro _ v2 ⟨rfl, hb2⟩
      exact hK _ _ ⟨⟨⟨updf f 17 (.agg #[.int .i64 a0_0, .int .i64 a0_1, .int .i64 a0_2]), rfl⟩, hin.step hb2⟩, rfl, fun j hj hw hf => by
          rcases j with _ | _ | _ | _ | _ | _ | _ | _ | _ | _ | _ | _ | _ | _ | _ | _ | _ | j
          all_goals first | exact absurd rfl hj | exact hf | rfl | (obtain ⟨gs, X0, X1, X2, h0, h1, h2⟩ := hf; exact ⟨gs, X0, X1, X2, h0, h1, h2.step hb2⟩) | (obtain ⟨g, c, h0, h1, h2⟩ := hf; exact ⟨g, c, h0, h1, h2.step hb2⟩) | (obtain ⟨g, h0, h1, h2⟩ := hf; exact ⟨g, h0, h1, h2.step hb2⟩) | (obtain ⟨gs, X, h0, h1, h2⟩ := hf; exact ⟨gs, X, h0, h1, h2.step hb2⟩) | (obtain ⟨gs, g, c, h0, h1, h2, h3, h4⟩ := hf; exact ⟨gs, g, c, h0, h1, h2.step hb2, h3, h4.step hb2⟩)⟩
    · obtain rfl := Option.some.inj ho
      refine wpOp_plain rfl rfl ?_
      unfold Oper.wp
      go_simp
      exact hK _ _ ⟨⟨⟨updf f 18 (.agg #[.int .i64 a1_0, .int .i64 a1_1]), rfl⟩, hin⟩, rfl, fun j hj hw hf => by
          rcases j with _ | _ | _ | _ | _ | _ | _ | _ | _ | _ | _ | _ | _ | _ | _ | _ | _ | j
          all_goals first | exact absurd rfl hj | exact hf | rfl⟩
    · obtain rfl := Option.some.inj ho
      have f2 := haf { on := 2, ground := .data } (by simp) rfl
      have f2 : _ = _ := Option.some.inj f2
      refine wpOp_plain rfl rfl ?_
      unfold Oper.wp
      go_simp
      refine (toEvent_c a1_0 a1_1 _).mono ?_
      rintro _ v2 ⟨rfl, hb2⟩
      exact hK _ _ ⟨⟨⟨updf f 19 (.agg #[.int .i64 a1_0, .int .i64 a1_1]), rfl⟩, hin.step hb2⟩, rfl, fun j hj hw hf => by
          rcases j with _ | _ | _ | _ | _ | _ | _ | _ | _ | _ | _ | _ | _ | _ | _ | _ | _ | j
          all_goals first | exact absurd rfl hj | exact hf | rfl | (obtain ⟨gs, X0, X1, X2, h0, h1, h2⟩ := hf; exact ⟨gs, X0, X1, X2, h0, h1, h2.step hb2⟩) | (obtain ⟨g, c, h0, h1, h2⟩ := hf; exact ⟨g, c, h0, h1, h2.step hb2⟩) | (obtain ⟨g, h0, h1, h2⟩ := hf; exact ⟨g, h0, h1, h2.step hb2⟩) | (obtain ⟨gs, X, h0, h1, h2⟩ := hf; exact ⟨gs, X, h0, h1, h2.step hb2⟩) | (obtain ⟨gs, g, c, h0, h1, h2, h3, h4⟩ := hf; exact ⟨gs, g, c, h0, h1, h2.step hb2, h3, h4.step hb2⟩)⟩
    · obtain rfl := Option.some.inj ho
      have f1 := haf { on := 1, ground := .data } (by simp) rfl
      have f1 : _ = _ := Option.some.inj f1
      have f3 := haf { on := 3, ground := .data } (by simp) rfl
      have f3 : _ = _ := Option.some.inj f3
      refine wpOp_plain rfl rfl ?_
      unfold Oper.wp
      go_simp
      refine (HsC.out _).mono ?_
      rintro _ v2 ⟨rfl, hb2⟩
      exact hK _ _ ⟨⟨⟨updf f 20 (.tuple #[.agg #[.int .i64 r0, .int .i64 r1, .int .i64 r2], .int .i64 e0, .int .i64 e1, .int .i64 e2, .bool e3]), rfl⟩, hin.step hb2⟩, rfl, fun j hj hw hf => by
          rcases j with _ | _ | _ | _ | _ | _ | _ | _ | _ | _ | _ | _ | _ | _ | _ | _ | _ | j
          all_goals first | exact absurd rfl hj | exact hf | rfl | (obtain ⟨gs, X0, X1, X2, h0, h1, h2⟩ := hf; exact ⟨gs, X0, X1, X2, h0, h1, h2.step hb2⟩) | (obtain ⟨g, c, h0, h1, h2⟩ := hf; exact ⟨g, c, h0, h1, h2.step hb2⟩) | (obtain ⟨g, h0, h1, h2⟩ := hf; exact ⟨g, h0, h1, h2.step hb2⟩) | (obtain ⟨gs, X, h0, h1, h2⟩ := hf; exact ⟨gs, X, h0, h1, h2.step hb2⟩) | (obtain ⟨gs, g, c, h0, h1, h2, h3, h4⟩ := hf; exact ⟨gs, g, c, h0, h1, h2.step hb2, h3, h4.step hb2⟩)⟩
    · obtain rfl := Option.some.inj ho
      have f4 := haf { on := 4, ground := .data } (by simp) rfl
      have f4 : _ = _ := Option.some.inj f4
      refine wpOp_plain rfl rfl ?_
      unfold Oper.wp
      go_simp
      exact hK _ _ ⟨⟨⟨updf f 15 (.tuple #[.agg #[.int .i64 r0, .int .i64 r1, .int .i64 r2], .int .i64 e0, .int .i64 e1, .int .i64 e2, .bool e3]), rfl⟩, hin⟩, rfl, fun j hj hw hf => by
          rcases j with _ | _ | _ | _ | _ | _ | _ | _ | _ | _ | _ | _ | _ | _ | _ | _ | _ | j
          all_goals first | exact absurd rfl hj | exact hf | rfl⟩
    · obtain rfl := Option.some.inj ho
      have f5 := haf { on := 5, ground := .data } (by simp) rfl
      have f5 : _ = _ := Option.some.inj f5
      refine wpOp_plain rfl rfl ?_
      unfold Oper.wp
      go_simp
      exact hK _ _ ⟨⟨⟨updf f 21 (.agg #[.int .i64 r0, .int .i64 r1, .int .i64 r2]), rfl⟩, hin⟩, rfl, fun j hj hw hf => by
          rcases j with _ | _ | _ | _ | _ | _ | _ | _ | _ | _ | _ | _ | _ | _ | _ | _ | _ | j
          all_goals first | exact absurd rfl hj | exact hf | rfl⟩
    · obtain rfl := Option.some.inj ho
      have f5 := haf { on := 5, ground := .data } (by simp) rfl
      have f5 : _ = _ := Option.some.inj f5
      refine wpOp_plain rfl rfl ?_
      unfold Oper.wp
      go_simp
      exact hK _ _ ⟨⟨⟨updf f 22 (.int .i64 e0), rfl⟩, hin⟩, rfl, fun j hj hw hf => by
          rcases j with _ | _ | _ | _ | _ | _ | _ | _ | _ | _ | _ | _ | _ | _ | _ | _ | _ | j
          all_goals first | exact absurd rfl hj | exact hf | rfl⟩
    · obtain rfl := Option.some.inj ho
      have f5 := haf { on := 5, ground := .data } (by simp) rfl
      have f5 : _ = _ := Option.some.inj f5
      refine wpOp_plain rfl rfl ?_
      unfold Oper.wp
      go_simp
      exact hK _ _ ⟨⟨⟨updf f 23 (.int .i64 e1), rfl⟩, hin⟩, rfl, fun j hj hw hf => by
          rcases j with _ | _ | _ | _ | _ | _ | _ | _ | _ | _ | _ | _ | _ | _ | _ | _ | _ | j
          all_goals first | exact absurd rfl hj | exact hf | rfl⟩
    · obtain rfl := Option.some.inj ho
      have f5 := haf { on := 5, ground := .data } (by simp) rfl
      have f5 : _ = _ := Option.some.inj f5
      refine wpOp_plain rfl rfl ?_
      unfold Oper.wp
      go_simp
      exact hK _ _ ⟨⟨⟨updf f 24 (.int .i64 e2), rfl⟩, hin⟩, rfl, fun j hj hw hf => by
          rcases j with _ | _ | _ | _ | _ | _ | _ | _ | _ | _ | _ | _ | _ | _ | _ | _ | _ | j
          all_goals first | exact absurd rfl hj | exact hf | rfl⟩
    · obtain rfl := Option.some.inj ho
      have f5 := haf { on := 5, ground := .data } (by simp) rfl
      have f5 : _ = _ := Option.some.inj f5
      refine wpOp_plain rfl rfl ?_
      unfold Oper.wp
      go_simp
      exact hK _ _ ⟨⟨⟨updf f 25 (.bool e3), rfl⟩, hin⟩, rfl, fun j hj hw hf => by
          rcases j with _ | _ | _ | _ | _ | _ | _ | _ | _ | _ | _ | _ | _ | _ | _ | _ | _ | j
          all_goals first | exact absurd rfl hj | exact hf | rfl⟩
    · obtain rfl := Option.some.inj ho
      refine wpOp_plain rfl rfl ?_
      unfold Oper.wp
      go_simp
      exact hK _ _ ⟨⟨⟨updf f 5 (.pointer (some ⟨v1.heap.size, 0, none⟩)), rfl⟩, hin.alloc _⟩, ⟨v1.heap.size, _, _, _, Nat.le_trans hBl_0 hin.size, rfl, Blk.new v1 _ _⟩, fun j hj hw hf => by
          rcases j with _ | _ | _ | _ | _ | _ | _ | _ | _ | _ | _ | _ | _ | _ | _ | _ | _ | j
          all_goals first | exact absurd rfl hj | exact hf | rfl | (obtain ⟨gs, X0, X1, X2, h0, h1, h2⟩ := hf; exact ⟨gs, X0, X1, X2, h0, h1, h2.step ((Below.refl _ v1).alloc (Nat.le_refl _) _)⟩) | (obtain ⟨g, c, h0, h1, h2⟩ := hf; exact ⟨g, c, h0, h1, h2.step ((Below.refl _ v1).alloc (Nat.le_refl _) _)⟩) | (obtain ⟨g, h0, h1, h2⟩ := hf; exact ⟨g, h0, h1, h2.step ((Below.refl _ v1).alloc (Nat.le_refl _) _)⟩) | (obtain ⟨gs, X, h0, h1, h2⟩ := hf; exact ⟨gs, X, h0, h1, h2.step ((Below.refl _ v1).alloc (Nat.le_refl _) _)⟩) | (obtain ⟨gs, g, c, h0, h1, h2, h3, h4⟩ := hf; exact ⟨gs, g, c, h0, h1, h2.step ((Below.refl _ v1).alloc (Nat.le_refl _) _), h3, h4.step ((Below.refl _ v1).alloc (Nat.le_refl _) _)⟩) | exact absurd (hw.symm.trans (show waitsB _ _ _ = true by kernel_rfl)) (by decide)⟩
    · obtain rfl := Option.some.inj ho
      have f6 := haf { on := 6, ground := .data } (by simp) rfl
      have f6 : _ = _ := Option.some.inj f6
      obtain ⟨gs, X0, X1, X2, hgB, hsl, hbk⟩ := haf { on := 11, ground := .data } (by simp) rfl
      have hsl : _ = _ := Option.some.inj hsl
      have z0 := hbk.cell 0
      have y0 := hbk.frozen 0
      have z1 := hbk.cell 1
      have y1 := hbk.frozen 1
      have z2 := hbk.cell 2
      have y2 := hbk.frozen 2
      have hgw := Nat.le_trans hBg_0 hgB
      have hb2 : Below w_0.heap.size v1 (((v1.setCell ⟨gs, 0, none⟩ (.int .i64 r0)).setCell ⟨gs, 1, none⟩ (.int .i64 r1)).setCell ⟨gs, 2, none⟩ (.int .i64 r2)) := ((((Below.refl _ _).setCell hgw _).setCell hgw _).setCell hgw _)
      have hgr : v1.grownBy (((v1.setCell ⟨gs, 0, none⟩ (.int .i64 r0)).setCell ⟨gs, 1, none⟩ (.int .i64 r1)).setCell ⟨gs, 2, none⟩ (.int .i64 r2)) (some gs) := (only_setCell (only_setCell (only_setCell (only_refl _ _) (p := ⟨gs, 0, none⟩) (.inl rfl) _) (p := ⟨gs, 1, none⟩) (.inl rfl) _) (p := ⟨gs, 2, none⟩) (.inl rfl) _)
      have HBK : Blk (((v1.setCell ⟨gs, 0, none⟩ (.int .i64 r0)).setCell ⟨gs, 1, none⟩ (.int .i64 r1)).setCell ⟨gs, 2, none⟩ (.int .i64 r2)) gs 26 #[.int .i64 r0, .int .i64 r1, .int .i64 r2] := by
        have h := (((hbk.set_ 0 (.int .i64 r0)).set_ 1 (.int .i64 r1)).set_ 2 (.int .i64 r2))
        simpa using h
      refine wpOp_plain rfl rfl ?_
      unfold Oper.wp
      go_simp
      exact hK _ _ ⟨⟨⟨f, rfl⟩, hin.wide hb2⟩, ⟨gs, hgB, congrArg some hsl, HBK⟩, fun j hj hw hf => by
          rcases j with _ | _ | _ | _ | _ | _ | _ | _ | _ | _ | _ | _ | _ | _ | _ | _ | _ | j
          all_goals first | exact absurd rfl hj | exact hf | rfl | exact ⟨gs, _, _, _, hgB, congrArg some hsl, HBK⟩ | (obtain ⟨g, c, h0, h1, h2⟩ := hf; exact ⟨g, c, h0, h1, h2.far hbk (by decide) hgr⟩) | (obtain ⟨g, h0, h1, h2⟩ := hf; exact ⟨g, h0, h1, h2.far hbk (by decide) hgr⟩)⟩
    · obtain rfl := Option.some.inj ho
      have f7 := haf { on := 7, ground := .data } (by simp) rfl
      have f7 : _ = _ := Option.some.inj f7
      refine wpOp_plain rfl rfl ?_
      unfold Oper.wp
      go_simp
      exact hK _ _ ⟨⟨⟨updf f 6 (.int .i64 e0), rfl⟩, hin⟩, rfl, fun j hj hw hf => by
          rcases j with _ | _ | _ | _ | _ | _ | _ | _ | _ | _ | _ | _ | _ | _ | _ | _ | _ | j
          all_goals first | exact absurd rfl hj | exact hf | rfl⟩
    · obtain rfl := Option.some.inj ho
      have f8 := haf { on := 8, ground := .data } (by simp) rfl
      have f8 : _ = _ := Option.some.inj f8
      refine wpOp_plain rfl rfl ?_
      unfold Oper.wp
      go_simp
      exact hK _ _ ⟨⟨⟨updf f 7 (.int .i64 e1), rfl⟩, hin⟩, rfl, fun j hj hw hf => by
          rcases j with _ | _ | _ | _ | _ | _ | _ | _ | _ | _ | _ | _ | _ | _ | _ | _ | _ | j
          all_goals first | exact absurd rfl hj | exact hf | rfl⟩
    · obtain rfl := Option.some.inj ho
      have f9 := haf { on := 9, ground := .data } (by simp) rfl
      have f9 : _ = _ := Option.some.inj f9
      refine wpOp_plain rfl rfl ?_
      unfold Oper.wp
      go_simp
      exact hK _ _ ⟨⟨⟨updf f 8 (.int .i64 e2), rfl⟩, hin⟩, rfl, fun j hj hw hf => by
          rcases j with _ | _ | _ | _ | _ | _ | _ | _ | _ | _ | _ | _ | _ | _ | _ | _ | _ | j
          all_goals first | exact absurd rfl hj | exact hf | rfl⟩
    · obtain rfl := Option.some.inj ho
      have f10 := haf { on := 10, ground := .data } (by simp) rfl
      have f10 : _ = _ := Option.some.inj f10
      refine wpOp_plain rfl rfl ?_
      unfold Oper.wp
      go_simp
      exact hK _ _ ⟨⟨⟨updf f 9 (.bool e3), rfl⟩, hin⟩, rfl, fun j hj hw hf => by
          rcases j with _ | _ | _ | _ | _ | _ | _ | _ | _ | _ | _ | _ | _ | _ | _ | _ | _ | j
          all_goals first | exact absurd rfl hj | exact hf | rfl⟩
  intro a w_1 hI hF
  obtain ⟨⟨ha, rfl⟩, hn_1⟩ := hI
  have hb_1 := hn_1.below
  obtain ⟨gs_1, hgs_1, hs_1, kk_1⟩ := hF 12 (by decide)
  have hs_1 : ha 5 = _ := Option.some.inj hs_1
  have he_1_6 : ha 6 = _ := Option.some.inj (hF 13 (by decide))
  have he_1_7 : ha 7 = _ := Option.some.inj (hF 14 (by decide))
  have he_1_8 : ha 8 = _ := Option.some.inj (hF 15 (by decide))
  have he_1_9 : ha 9 = _ := Option.some.inj (hF 16 (by decide))
  clear hF
  rw [hs_1, he_1_6, he_1_7, he_1_8, he_1_9]
  clear hs_1 he_1_6 he_1_7 he_1_8 he_1_9
  have kb_1 : Blk w_1 (gs_1) 26 #[.int .i64 r0, .int .i64 r1, .int .i64 r2] := kk_1
  clear kk_1
  have i_1 : In w.heap.size w w_1 := In.step (by (repeat (first | exact In.refl _ | assumption | apply In.alloc | apply In.drewN | apply In.drew | (refine In.step ?_ (by assumption))))) hb_1
  have k_1_p0 : Blk w_1 (b_p0) 23 #[.int .i64 a0_0, .int .i64 a0_1, .int .i64 a0_2] := Blk.step (by (with_reducible (repeat (first | assumption | exact Blk.new' (by simp) | apply Blk.drewN | apply Blk.drew | apply Blk.alloc | (refine Blk.far ?_ (by (try simp) <;> omega) _))))) hb_1
  have c_1_p0_0 : w_1.cell? ⟨b_p0, 0, none⟩ = some (.int .i64 a0_0) := k_1_p0.cell 0
  have c_1_p0_1 : w_1.cell? ⟨b_p0, 1, none⟩ = some (.int .i64 a0_1) := k_1_p0.cell 1
  have c_1_p0_2 : w_1.cell? ⟨b_p0, 2, none⟩ = some (.int .i64 a0_2) := k_1_p0.cell 2
  have l_1_p0 := k_1_p0.lt
  have k_1_p1 : Blk w_1 (b_p1) 25 #[.int .i64 a1_0, .int .i64 a1_1] := Blk.step (by (with_reducible (repeat (first | assumption | exact Blk.new' (by simp) | apply Blk.drewN | apply Blk.drew | apply Blk.alloc | (refine Blk.far ?_ (by (try simp) <;> omega) _))))) hb_1
  have c_1_p1_0 : w_1.cell? ⟨b_p1, 0, none⟩ = some (.int .i64 a1_0) := k_1_p1.cell 0
  have c_1_p1_1 : w_1.cell? ⟨b_p1, 1, none⟩ = some (.int .i64 a1_1) := k_1_p1.cell 1
  have l_1_p1 := k_1_p1.lt
  clear i_0 k_0_p0 c_0_p0_0 c_0_p0_1 c_0_p0_2 l_0_p0 k_0_p1 c_0_p1_0 c_0_p1_1 l_0_p1 hb_0
  have k_1_l1 : Blk w_1 (gs_1) 26 #[.int .i64 r0, .int .i64 r1, .int .i64 r2] := kb_1
  have c_1_l1_0 : w_1.cell? ⟨gs_1, 0, none⟩ = some (.int .i64 r0) := k_1_l1.cell 0
  have c_1_l1_1 : w_1.cell? ⟨gs_1, 1, none⟩ = some (.int .i64 r1) := k_1_l1.cell 1
  have c_1_l1_2 : w_1.cell? ⟨gs_1, 2, none⟩ = some (.int .i64 r2) := k_1_l1.cell 2
  clear kb_1 hn_1 hgs_1
  clear hBl_0 hBg_0
  have IC := Lib.hid i_1
  have j_1 : In w_1.heap.size w_1 w_1 := In.refl _
  go_wp2_with fail
  have hBw_1 : w_1.heap.size ≤ w_1.heap.size := Nat.le_refl _
  obtain ⟨B_1, hB_1⟩ : ∃ B, B = w_1.heap.size := ⟨_, rfl⟩
  have hBl_1 : B_1 ≤ w_1.heap.size := by omega
  have hBg_1 : w_1.heap.size ≤ B_1 := by omega
  clear hBw_1 hB_1
  refine wp_region_facts (JIEventOnb w_1 a0_0 a0_1 a0_2 a1_0 a1_1 r0 r1 r2 e0 e1 e2 e3 b_p1 b_p0 ha gs_1) (JFEventOnb B_1 a0_0 a0_1 a0_2 a1_0 a1_1 r0 r1 r2 e0 e1 e2 e3 b_p1 b_p0 ha gs_1) (by kernel_rfl) (by kernel_rfl) ⟨⟨fun _ => undef, rfl⟩, (In.refl _).drew⟩ ?_ ?_
  · intro a v1 i o ho hI haf
    obtain ⟨⟨f, rfl⟩, hin⟩ := hI
    have kv_p0 : Blk v1 (b_p0) 23 #[.int .i64 a0_0, .int .i64 a0_1, .int .i64 a0_2] := Blk.step k_1_p0 hin.below
    have cv_p0_0 := kv_p0.cell 0
    have cv_p0_1 := kv_p0.cell 1
    have cv_p0_2 := kv_p0.cell 2
    have kv_p1 : Blk v1 (b_p1) 25 #[.int .i64 a1_0, .int .i64 a1_1] := Blk.step k_1_p1 hin.below
    have cv_p1_0 := kv_p1.cell 0
    have cv_p1_1 := kv_p1.cell 1
    have kv_l1 : Blk v1 (gs_1) 26 #[.int .i64 r0, .int .i64 r1, .int .i64 r2] := Blk.step k_1_l1 hin.below
    have cv_l1_0 := kv_l1.cell 0
    have cv_l1_1 := kv_l1.cell 1
    have cv_l1_2 := kv_l1.cell 2
    have hi : i < 17 := by
      rcases Nat.lt_or_ge i 17 with h | h
      · exact h
      · simp [h] at ho
    suffices H : ∀ K : Act → World → Prop, (∀ a' w', ((JIEventOnb w_1 a0_0 a0_1 a0_2 a1_0 a1_1 r0 r1 r2 e0 e1 e2 e3 b_p1 b_p0 ha gs_1) a' w' ∧ (JFEventOnb B_1 a0_0 a0_1 a0_2 a1_0 a1_1 r0 r1 r2 e0 e1 e2 e3 b_p1 b_p0 ha gs_1) i a' w' ∧ ∀ j, j ≠ i → waitsB _ j i = false → (JFEventOnb B_1 a0_0 a0_1 a0_2 a1_0 a1_1 r0 r1 r2 e0 e1 e2 e3 b_p1 b_p0 ha gs_1) j ⟨#[Value.agg #[Value.int IntKind.i64 a0_0, Value.int IntKind.i64 a0_1, Value.int IntKind.i64 a0_2], Value.agg #[Value.int IntKind.i64 a1_0, Value.int IntKind.i64 a1_1], Value.pointer (some { block := b_p0, off := 0 }), Value.pointer (some { block := b_p1, off := 0 }), Value.bool false, Value.pointer (some { block := gs_1, off := 0 }), Value.int IntKind.i64 e0, Value.int IntKind.i64 e1, Value.int IntKind.i64 e2, Value.bool e3, f 10, f 11, f 12, f 13, f 14, ha 15, ha 16, ha 17, ha 18, ha 19, ha 20, ha 21, ha 22, ha 23, ha 24, ha 25, f 26, f 27, f 28, f 29, f 30, f 31, f 32, f 33, f 34, f 35, f 36, undef, undef, undef, undef, undef, undef, undef, undef, undef, undef, undef, undef, undef, undef, undef, undef, undef, undef, undef, undef, undef, undef, undef, undef], []⟩ v1 → (JFEventOnb B_1 a0_0 a0_1 a0_2 a1_0 a1_1 r0 r1 r2 e0 e1 e2 e3 b_p1 b_p0 ha gs_1) j a' w') → K a' w') → wpOp _ _ _ i K ⟨#[Value.agg #[Value.int IntKind.i64 a0_0, Value.int IntKind.i64 a0_1, Value.int IntKind.i64 a0_2], Value.agg #[Value.int IntKind.i64 a1_0, Value.int IntKind.i64 a1_1], Value.pointer (some { block := b_p0, off := 0 }), Value.pointer (some { block := b_p1, off := 0 }), Value.bool false, Value.pointer (some { block := gs_1, off := 0 }), Value.int IntKind.i64 e0, Value.int IntKind.i64 e1, Value.int IntKind.i64 e2, Value.bool e3, f 10, f 11, f 12, f 13, f 14, ha 15, ha 16, ha 17, ha 18, ha 19, ha 20, ha 21, ha 22, ha 23, ha 24, ha 25, f 26, f 27, f 28, f 29, f 30, f 31, f 32, f 33, f 34, f 35, f 36, undef, undef, undef, undef, undef, undef, undef, undef, undef, undef, undef, undef, undef, undef, undef, undef, undef, undef, undef, undef, undef, undef, undef, undef], []⟩ v1 from H _ fun _ _ h => h
    intro K hK
    rcases (by omega : i = 0 ∨ i = 1 ∨ i = 2 ∨ i = 3 ∨ i = 4 ∨ i = 5 ∨ i = 6 ∨ i = 7 ∨ i = 8 ∨ i = 9 ∨ i = 10 ∨ i = 11 ∨ i = 12 ∨ i = 13 ∨ i = 14 ∨ i = 15 ∨ i = 16) with rfl | rfl | rfl | rfl | rfl | rfl | rfl | rfl | rfl | rfl | rfl | rfl | rfl | rfl | rfl | rfl | rfl
    · obtain rfl := Option.some.inj ho
      refine wpOp_plain rfl rfl ?_
      unfold Oper.wp
      go_simp
      exact hK _ _ ⟨⟨⟨updf f 27 (.agg #[.int .i64 a0_0, .int .i64 a0_1, .int .i64 a0_2]), rfl⟩, hin⟩, rfl, fun j hj hw hf => by
          rcases j with _ | _ | _ | _ | _ | _ | _ | _ | _ | _ | _ | _ | _ | _ | _ | _ | _ | j
          all_goals first | exact absurd rfl hj | exact hf | rfl⟩
    · obtain rfl := Option.some.inj ho
      have f0 := haf { on := 0, ground := .data } (by simp) rfl
      have f0 : _ = _ := Option.some.inj f0
      refine wpOp_plain rfl rfl ?_
      unfold Oper.wp
      go_simp
      refine (toRack_c a0_0 a0_1 a0_2 _).mono ?_
      rintro _ v2 ⟨rfl, hb2⟩
      exact hK _ _ ⟨⟨⟨updf f 28 (.agg #[.int .i64 a0_0, .int .i64 a0_1, .int .i64 a0_2]), rfl⟩, hin.step hb2⟩, rfl, fun j hj hw hf => by
          rcases j with _ | _ | _ | _ | _ | _ | _ | _ | _ | _ | _ | _ | _ | _ | _ | _ | _ | j
          all_goals first | exact absurd rfl hj | exact hf | rfl | (obtain ⟨gs, X0, X1, X2, h0, h1, h2⟩ := hf; exact ⟨gs, X0, X1, X2, h0, h1, h2.step hb2⟩) | (obtain ⟨g, c, h0, h1, h2⟩ := hf; exact ⟨g, c, h0, h1, h2.step hb2⟩) | (obtain ⟨g, h0, h1, h2⟩ := hf; exact ⟨g, h0, h1, h2.step hb2⟩) | (obtain ⟨gs, X, h0, h1, h2⟩ := hf; exact ⟨gs, X, h0, h1, h2.step hb2⟩) | (obtain ⟨gs, g, c, h0, h1, h2, h3, h4⟩ := hf; exact ⟨gs, g, c, h0, h1, h2.step hb2, h3, h4.step hb2⟩)⟩
    · obtain rfl := Option.some.inj ho
      refine wpOp_plain rfl rfl ?_
      unfold Oper.wp
      go_simp
      exact hK _ _ ⟨⟨⟨updf f 29 (.agg #[.int .i64 a1_0, .int .i64 a1_1]), rfl⟩, hin⟩, rfl, fun j hj hw hf => by
          rcases j with _ | _ | _ | _ | _ | _ | _ | _ | _ | _ | _ | _ | _ | _ | _ | _ | _ | j
          all_goals first | exact absurd rfl hj | exact hf | rfl⟩
    · obtain rfl := Option.some.inj ho
      have f2 := haf { on := 2, ground := .data } (by simp) rfl
      have f2 : _ = _ := Option.some.inj f2
      refine wpOp_plain rfl rfl ?_
      unfold Oper.wp
      go_simp
      refine (toEvent_c a1_0 a1_1 _).mono ?_
      rintro _ v2 ⟨rfl, hb2⟩
      exact hK _ _ ⟨⟨⟨updf f 30 (.agg #[.int .i64 a1_0, .int .i64 a1_1]), rfl⟩, hin.step hb2⟩, rfl, fun j hj hw hf => by
          rcases j with _ | _ | _ | _ | _ | _ | _ | _ | _ | _ | _ | _ | _ | _ | _ | _ | _ | j
          all_goals first | exact absurd rfl hj | exact hf | rfl | (obtain ⟨gs, X0, X1, X2, h0, h1, h2⟩ := hf; exact ⟨gs, X0, X1, X2, h0, h1, h2.step hb2⟩) | (obtain ⟨g, c, h0, h1, h2⟩ := hf; exact ⟨g, c, h0, h1, h2.step hb2⟩) | (obtain ⟨g, h0, h1, h2⟩ := hf; exact ⟨g, h0, h1, h2.step hb2⟩) | (obtain ⟨gs, X, h0, h1, h2⟩ := hf; exact ⟨gs, X, h0, h1, h2.step hb2⟩) | (obtain ⟨gs, g, c, h0, h1, h2, h3, h4⟩ := hf; exact ⟨gs, g, c, h0, h1, h2.step hb2, h3, h4.step hb2⟩)⟩
    · obtain rfl := Option.some.inj ho
      have f1 := haf { on := 1, ground := .data } (by simp) rfl
      have f1 : _ = _ := Option.some.inj f1
      have f3 := haf { on := 3, ground := .data } (by simp) rfl
      have f3 : _ = _ := Option.some.inj f3
      refine wpOp_plain rfl rfl ?_
      unfold Oper.wp
      go_simp
      refine (HiC.out _).mono ?_
      rintro _ v2 ⟨rfl, hb2⟩
      exact hK _ _ ⟨⟨⟨updf f 31 (.tuple #[.agg #[.int .i64 r0, .int .i64 r1, .int .i64 r2], .int .i64 e0, .int .i64 e1, .int .i64 e2, .bool e3]), rfl⟩, hin.step hb2⟩, rfl, fun j hj hw hf => by
          rcases j with _ | _ | _ | _ | _ | _ | _ | _ | _ | _ | _ | _ | _ | _ | _ | _ | _ | j
          all_goals first | exact absurd rfl hj | exact hf | rfl | (obtain ⟨gs, X0, X1, X2, h0, h1, h2⟩ := hf; exact ⟨gs, X0, X1, X2, h0, h1, h2.step hb2⟩) | (obtain ⟨g, c, h0, h1, h2⟩ := hf; exact ⟨g, c, h0, h1, h2.step hb2⟩) | (obtain ⟨g, h0, h1, h2⟩ := hf; exact ⟨g, h0, h1, h2.step hb2⟩) | (obtain ⟨gs, X, h0, h1, h2⟩ := hf; exact ⟨gs, X, h0, h1, h2.step hb2⟩) | (obtain ⟨gs, g, c, h0, h1, h2, h3, h4⟩ := hf; exact ⟨gs, g, c, h0, h1, h2.step hb2, h3, h4.step hb2⟩)⟩
    · obtain rfl := Option.some.inj ho
      have f4 := haf { on := 4, ground := .data } (by simp) rfl
      have f4 : _ = _ := Option.some.inj f4
      refine wpOp_plain rfl rfl ?_
      unfold Oper.wp
      go_simp
      exact hK _ _ ⟨⟨⟨updf f 26 (.tuple #[.agg #[.int .i64 r0, .int .i64 r1, .int .i64 r2], .int .i64 e0, .int .i64 e1, .int .i64 e2, .bool e3]), rfl⟩, hin⟩, rfl, fun j hj hw hf => by
          rcases j with _ | _ | _ | _ | _ | _ | _ | _ | _ | _ | _ | _ | _ | _ | _ | _ | _ | j
          all_goals first | exact absurd rfl hj | exact hf | rfl⟩
    · obtain rfl := Option.some.inj ho
      have f5 := haf { on := 5, ground := .data } (by simp) rfl
      have f5 : _ = _ := Option.some.inj f5
      refine wpOp_plain rfl rfl ?_
      unfold Oper.wp
      go_simp
      exact hK _ _ ⟨⟨⟨updf f 32 (.agg #[.int .i64 r0, .int .i64 r1, .int .i64 r2]), rfl⟩, hin⟩, rfl, fun j hj hw hf => by
          rcases j with _ | _ | _ | _ | _ | _ | _ | _ | _ | _ | _ | _ | _ | _ | _ | _ | _ | j
          all_goals first | exact absurd rfl hj | exact hf | rfl⟩
    · obtain rfl := Option.some.inj ho
      have f5 := haf { on := 5, ground := .data } (by simp) rfl
      have f5 : _ = _ := Option.some.inj f5
      refine wpOp_plain rfl rfl ?_
      unfold Oper.wp
      go_simp
      exact hK _ _ ⟨⟨⟨updf f 33 (.int .i64 e0), rfl⟩, hin⟩, rfl, fun j hj hw hf => by
          rcases j with _ | _ | _ | _ | _ | _ | _ | _ | _ | _ | _ | _ | _ | _ | _ | _ | _ | j
          all_goals first | exact absurd rfl hj | exact hf | rfl⟩
    · obtain rfl := Option.some.inj ho
      have f5 := haf { on := 5, ground := .data } (by simp) rfl
      have f5 : _ = _ := Option.some.inj f5
      refine wpOp_plain rfl rfl ?_
      unfold Oper.wp
      go_simp
      exact hK _ _ ⟨⟨⟨updf f 34 (.int .i64 e1), rfl⟩, hin⟩, rfl, fun j hj hw hf => by
          rcases j with _ | _ | _ | _ | _ | _ | _ | _ | _ | _ | _ | _ | _ | _ | _ | _ | _ | j
          all_goals first | exact absurd rfl hj | exact hf | rfl⟩
    · obtain rfl := Option.some.inj ho
      have f5 := haf { on := 5, ground := .data } (by simp) rfl
      have f5 : _ = _ := Option.some.inj f5
      refine wpOp_plain rfl rfl ?_
      unfold Oper.wp
      go_simp
      exact hK _ _ ⟨⟨⟨updf f 35 (.int .i64 e2), rfl⟩, hin⟩, rfl, fun j hj hw hf => by
          rcases j with _ | _ | _ | _ | _ | _ | _ | _ | _ | _ | _ | _ | _ | _ | _ | _ | _ | j
          all_goals first | exact absurd rfl hj | exact hf | rfl⟩
    · obtain rfl := Option.some.inj ho
      have f5 := haf { on := 5, ground := .data } (by simp) rfl
      have f5 : _ = _ := Option.some.inj f5
      refine wpOp_plain rfl rfl ?_
      unfold Oper.wp
      go_simp
      exact hK _ _ ⟨⟨⟨updf f 36 (.bool e3), rfl⟩, hin⟩, rfl, fun j hj hw hf => by
          rcases j with _ | _ | _ | _ | _ | _ | _ | _ | _ | _ | _ | _ | _ | _ | _ | _ | _ | j
          all_goals first | exact absurd rfl hj | exact hf | rfl⟩
    · obtain rfl := Option.some.inj ho
      refine wpOp_plain rfl rfl ?_
      unfold Oper.wp
      go_simp
      exact hK _ _ ⟨⟨⟨updf f 10 (.pointer (some ⟨v1.heap.size, 0, none⟩)), rfl⟩, hin.alloc _⟩, ⟨v1.heap.size, _, _, _, Nat.le_trans hBl_1 hin.size, rfl, Blk.new v1 _ _⟩, fun j hj hw hf => by
          rcases j with _ | _ | _ | _ | _ | _ | _ | _ | _ | _ | _ | _ | _ | _ | _ | _ | _ | j
          all_goals first | exact absurd rfl hj | exact hf | rfl | (obtain ⟨gs, X0, X1, X2, h0, h1, h2⟩ := hf; exact ⟨gs, X0, X1, X2, h0, h1, h2.step ((Below.refl _ v1).alloc (Nat.le_refl _) _)⟩) | (obtain ⟨g, c, h0, h1, h2⟩ := hf; exact ⟨g, c, h0, h1, h2.step ((Below.refl _ v1).alloc (Nat.le_refl _) _)⟩) | (obtain ⟨g, h0, h1, h2⟩ := hf; exact ⟨g, h0, h1, h2.step ((Below.refl _ v1).alloc (Nat.le_refl _) _)⟩) | (obtain ⟨gs, X, h0, h1, h2⟩ := hf; exact ⟨gs, X, h0, h1, h2.step ((Below.refl _ v1).alloc (Nat.le_refl _) _)⟩) | (obtain ⟨gs, g, c, h0, h1, h2, h3, h4⟩ := hf; exact ⟨gs, g, c, h0, h1, h2.step ((Below.refl _ v1).alloc (Nat.le_refl _) _), h3, h4.step ((Below.refl _ v1).alloc (Nat.le_refl _) _)⟩) | exact absurd (hw.symm.trans (show waitsB _ _ _ = true by kernel_rfl)) (by decide)⟩
    · obtain rfl := Option.some.inj ho
      have f6 := haf { on := 6, ground := .data } (by simp) rfl
      have f6 : _ = _ := Option.some.inj f6
      obtain ⟨gs, X0, X1, X2, hgB, hsl, hbk⟩ := haf { on := 11, ground := .data } (by simp) rfl
      have hsl : _ = _ := Option.some.inj hsl
      have z0 := hbk.cell 0
      have y0 := hbk.frozen 0
      have z1 := hbk.cell 1
      have y1 := hbk.frozen 1
      have z2 := hbk.cell 2
      have y2 := hbk.frozen 2
      have hgw := Nat.le_trans hBg_1 hgB
      have hb2 : Below w_1.heap.size v1 (((v1.setCell ⟨gs, 0, none⟩ (.int .i64 r0)).setCell ⟨gs, 1, none⟩ (.int .i64 r1)).setCell ⟨gs, 2, none⟩ (.int .i64 r2)) := ((((Below.refl _ _).setCell hgw _).setCell hgw _).setCell hgw _)
      have hgr : v1.grownBy (((v1.setCell ⟨gs, 0, none⟩ (.int .i64 r0)).setCell ⟨gs, 1, none⟩ (.int .i64 r1)).setCell ⟨gs, 2, none⟩ (.int .i64 r2)) (some gs) := (only_setCell (only_setCell (only_setCell (only_refl _ _) (p := ⟨gs, 0, none⟩) (.inl rfl) _) (p := ⟨gs, 1, none⟩) (.inl rfl) _) (p := ⟨gs, 2, none⟩) (.inl rfl) _)
      have HBK : Blk (((v1.setCell ⟨gs, 0, none⟩ (.int .i64 r0)).setCell ⟨gs, 1, none⟩ (.int .i64 r1)).setCell ⟨gs, 2, none⟩ (.int .i64 r2)) gs 26 #[.int .i64 r0, .int .i64 r1, .int .i64 r2] := by
        have h := (((hbk.set_ 0 (.int .i64 r0)).set_ 1 (.int .i64 r1)).set_ 2 (.int .i64 r2))
        simpa using h
      refine wpOp_plain rfl rfl ?_
      unfold Oper.wp
      go_simp
      exact hK _ _ ⟨⟨⟨f, rfl⟩, hin.wide hb2⟩, ⟨gs, hgB, congrArg some hsl, HBK⟩, fun j hj hw hf => by
          rcases j with _ | _ | _ | _ | _ | _ | _ | _ | _ | _ | _ | _ | _ | _ | _ | _ | _ | j
          all_goals first | exact absurd rfl hj | exact hf | rfl | exact ⟨gs, _, _, _, hgB, congrArg some hsl, HBK⟩ | (obtain ⟨g, c, h0, h1, h2⟩ := hf; exact ⟨g, c, h0, h1, h2.far hbk (by decide) hgr⟩) | (obtain ⟨g, h0, h1, h2⟩ := hf; exact ⟨g, h0, h1, h2.far hbk (by decide) hgr⟩)⟩
    · obtain rfl := Option.some.inj ho
      have f7 := haf { on := 7, ground := .data } (by simp) rfl
      have f7 : _ = _ := Option.some.inj f7
      refine wpOp_plain rfl rfl ?_
      unfold Oper.wp
      go_simp
      exact hK _ _ ⟨⟨⟨updf f 11 (.int .i64 e0), rfl⟩, hin⟩, rfl, fun j hj hw hf => by
          rcases j with _ | _ | _ | _ | _ | _ | _ | _ | _ | _ | _ | _ | _ | _ | _ | _ | _ | j
          all_goals first | exact absurd rfl hj | exact hf | rfl⟩
    · obtain rfl := Option.some.inj ho
      have f8 := haf { on := 8, ground := .data } (by simp) rfl
      have f8 : _ = _ := Option.some.inj f8
      refine wpOp_plain rfl rfl ?_
      unfold Oper.wp
      go_simp
      exact hK _ _ ⟨⟨⟨updf f 12 (.int .i64 e1), rfl⟩, hin⟩, rfl, fun j hj hw hf => by
          rcases j with _ | _ | _ | _ | _ | _ | _ | _ | _ | _ | _ | _ | _ | _ | _ | _ | _ | j
          all_goals first | exact absurd rfl hj | exact hf | rfl⟩
    · obtain rfl := Option.some.inj ho
      have f9 := haf { on := 9, ground := .data } (by simp) rfl
      have f9 : _ = _ := Option.some.inj f9
      refine wpOp_plain rfl rfl ?_
      unfold Oper.wp
      go_simp
      exact hK _ _ ⟨⟨⟨updf f 13 (.int .i64 e2), rfl⟩, hin⟩, rfl, fun j hj hw hf => by
          rcases j with _ | _ | _ | _ | _ | _ | _ | _ | _ | _ | _ | _ | _ | _ | _ | _ | _ | j
          all_goals first | exact absurd rfl hj | exact hf | rfl⟩
    · obtain rfl := Option.some.inj ho
      have f10 := haf { on := 10, ground := .data } (by simp) rfl
      have f10 : _ = _ := Option.some.inj f10
      refine wpOp_plain rfl rfl ?_
      unfold Oper.wp
      go_simp
      exact hK _ _ ⟨⟨⟨updf f 14 (.bool e3), rfl⟩, hin⟩, rfl, fun j hj hw hf => by
          rcases j with _ | _ | _ | _ | _ | _ | _ | _ | _ | _ | _ | _ | _ | _ | _ | _ | _ | j
          all_goals first | exact absurd rfl hj | exact hf | rfl⟩
  intro a w_2 hI hF
  obtain ⟨⟨hb, rfl⟩, hn_2⟩ := hI
  have hb_2 := hn_2.below
  obtain ⟨gs_2, hgs_2, hs_2, kk_2⟩ := hF 12 (by decide)
  have hs_2 : hb 10 = _ := Option.some.inj hs_2
  have he_2_11 : hb 11 = _ := Option.some.inj (hF 13 (by decide))
  have he_2_12 : hb 12 = _ := Option.some.inj (hF 14 (by decide))
  have he_2_13 : hb 13 = _ := Option.some.inj (hF 15 (by decide))
  have he_2_14 : hb 14 = _ := Option.some.inj (hF 16 (by decide))
  clear hF
  rw [hs_2, he_2_11, he_2_12, he_2_13, he_2_14]
  clear hs_2 he_2_11 he_2_12 he_2_13 he_2_14
  have kb_2 : Blk w_2 (gs_2) 26 #[.int .i64 r0, .int .i64 r1, .int .i64 r2] := kk_2
  clear kk_2
  have j_2 : In w_1.heap.size w_1 w_2 := In.step (by (repeat (first | exact In.refl _ | assumption | apply In.alloc | apply In.drewN | apply In.drew | (refine In.step ?_ (by assumption))))) hb_2
  have k_2_p0 : Blk w_2 (b_p0) 23 #[.int .i64 a0_0, .int .i64 a0_1, .int .i64 a0_2] := Blk.step (by (with_reducible (repeat (first | assumption | exact Blk.new' (by simp) | apply Blk.drewN | apply Blk.drew | apply Blk.alloc | (refine Blk.far ?_ (by (try simp) <;> omega) _))))) hb_2
  have c_2_p0_0 : w_2.cell? ⟨b_p0, 0, none⟩ = some (.int .i64 a0_0) := k_2_p0.cell 0
  have c_2_p0_1 : w_2.cell? ⟨b_p0, 1, none⟩ = some (.int .i64 a0_1) := k_2_p0.cell 1
  have c_2_p0_2 : w_2.cell? ⟨b_p0, 2, none⟩ = some (.int .i64 a0_2) := k_2_p0.cell 2
  have l_2_p0 := k_2_p0.lt
  have k_2_p1 : Blk w_2 (b_p1) 25 #[.int .i64 a1_0, .int .i64 a1_1] := Blk.step (by (with_reducible (repeat (first | assumption | exact Blk.new' (by simp) | apply Blk.drewN | apply Blk.drew | apply Blk.alloc | (refine Blk.far ?_ (by (try simp) <;> omega) _))))) hb_2
  have c_2_p1_0 : w_2.cell? ⟨b_p1, 0, none⟩ = some (.int .i64 a1_0) := k_2_p1.cell 0
  have c_2_p1_1 : w_2.cell? ⟨b_p1, 1, none⟩ = some (.int .i64 a1_1) := k_2_p1.cell 1
  have l_2_p1 := k_2_p1.lt
  have k_2_l1 : Blk w_2 (gs_1) 26 #[.int .i64 r0, .int .i64 r1, .int .i64 r2] := Blk.step (by (with_reducible (repeat (first | assumption | exact Blk.new' (by simp) | apply Blk.drewN | apply Blk.drew | apply Blk.alloc | (refine Blk.far ?_ (by (try simp) <;> omega) _))))) hb_2
  have c_2_l1_0 : w_2.cell? ⟨gs_1, 0, none⟩ = some (.int .i64 r0) := k_2_l1.cell 0
  have c_2_l1_1 : w_2.cell? ⟨gs_1, 1, none⟩ = some (.int .i64 r1) := k_2_l1.cell 1
  have c_2_l1_2 : w_2.cell? ⟨gs_1, 2, none⟩ = some (.int .i64 r2) := k_2_l1.cell 2
  have l_2_l1 := k_2_l1.lt
  clear i_1 k_1_p0 c_1_p0_0 c_1_p0_1 c_1_p0_2 l_1_p0 k_1_p1 c_1_p1_0 c_1_p1_1 l_1_p1 hb_1 k_1_l1 c_1_l1_0 c_1_l1_1 c_1_l1_2 j_1
  have k_2_l2 : Blk w_2 (gs_2) 26 #[.int .i64 r0, .int .i64 r1, .int .i64 r2] := kb_2
  have c_2_l2_0 : w_2.cell? ⟨gs_2, 0, none⟩ = some (.int .i64 r0) := k_2_l2.cell 0
  have c_2_l2_1 : w_2.cell? ⟨gs_2, 1, none⟩ = some (.int .i64 r1) := k_2_l2.cell 1
  have c_2_l2_2 : w_2.cell? ⟨gs_2, 2, none⟩ = some (.int .i64 r2) := k_2_l2.cell 2
  clear kb_2 hn_2 hgs_2
  clear hBl_1 hBg_1
  go_wp2_with fail
  refine (eqRack_c r0 r1 r2 _).mono ?_
  rintro _ w_3 ⟨rfl, hb_3⟩
  have j_3 : In w_1.heap.size w_1 w_3 := In.step (by (repeat (first | exact In.refl _ | assumption | apply In.alloc | apply In.drewN | apply In.drew | (refine In.step ?_ (by assumption))))) hb_3
  have k_3_p0 : Blk w_3 (b_p0) 23 #[.int .i64 a0_0, .int .i64 a0_1, .int .i64 a0_2] := Blk.step (by (with_reducible (repeat (first | assumption | exact Blk.new' (by simp) | apply Blk.drewN | apply Blk.drew | apply Blk.alloc | (refine Blk.far ?_ (by (try simp) <;> omega) _))))) hb_3
  have c_3_p0_0 : w_3.cell? ⟨b_p0, 0, none⟩ = some (.int .i64 a0_0) := k_3_p0.cell 0
  have c_3_p0_1 : w_3.cell? ⟨b_p0, 1, none⟩ = some (.int .i64 a0_1) := k_3_p0.cell 1
  have c_3_p0_2 : w_3.cell? ⟨b_p0, 2, none⟩ = some (.int .i64 a0_2) := k_3_p0.cell 2
  have l_3_p0 := k_3_p0.lt
  have k_3_p1 : Blk w_3 (b_p1) 25 #[.int .i64 a1_0, .int .i64 a1_1] := Blk.step (by (with_reducible (repeat (first | assumption | exact Blk.new' (by simp) | apply Blk.drewN | apply Blk.drew | apply Blk.alloc | (refine Blk.far ?_ (by (try simp) <;> omega) _))))) hb_3
  have c_3_p1_0 : w_3.cell? ⟨b_p1, 0, none⟩ = some (.int .i64 a1_0) := k_3_p1.cell 0
  have c_3_p1_1 : w_3.cell? ⟨b_p1, 1, none⟩ = some (.int .i64 a1_1) := k_3_p1.cell 1
  have l_3_p1 := k_3_p1.lt
  have k_3_l1 : Blk w_3 (gs_1) 26 #[.int .i64 r0, .int .i64 r1, .int .i64 r2] := Blk.step (by (with_reducible (repeat (first | assumption | exact Blk.new' (by simp) | apply Blk.drewN | apply Blk.drew | apply Blk.alloc | (refine Blk.far ?_ (by (try simp) <;> omega) _))))) hb_3
  have c_3_l1_0 : w_3.cell? ⟨gs_1, 0, none⟩ = some (.int .i64 r0) := k_3_l1.cell 0
  have c_3_l1_1 : w_3.cell? ⟨gs_1, 1, none⟩ = some (.int .i64 r1) := k_3_l1.cell 1
  have c_3_l1_2 : w_3.cell? ⟨gs_1, 2, none⟩ = some (.int .i64 r2) := k_3_l1.cell 2
  have l_3_l1 := k_3_l1.lt
  have k_3_l2 : Blk w_3 (gs_2) 26 #[.int .i64 r0, .int .i64 r1, .int .i64 r2] := Blk.step (by (with_reducible (repeat (first | assumption | exact Blk.new' (by simp) | apply Blk.drewN | apply Blk.drew | apply Blk.alloc | (refine Blk.far ?_ (by (try simp) <;> omega) _))))) hb_3
  have c_3_l2_0 : w_3.cell? ⟨gs_2, 0, none⟩ = some (.int .i64 r0) := k_3_l2.cell 0
  have c_3_l2_1 : w_3.cell? ⟨gs_2, 1, none⟩ = some (.int .i64 r1) := k_3_l2.cell 1
  have c_3_l2_2 : w_3.cell? ⟨gs_2, 2, none⟩ = some (.int .i64 r2) := k_3_l2.cell 2
  have l_3_l2 := k_3_l2.lt
  clear j_2 k_2_p0 c_2_p0_0 c_2_p0_1 c_2_p0_2 l_2_p0 k_2_p1 c_2_p1_0 c_2_p1_1 l_2_p1 k_2_l1 c_2_l1_0 c_2_l1_1 c_2_l1_2 l_2_l1 hb_2 k_2_l2 c_2_l2_0 c_2_l2_1 c_2_l2_2
  go_wp2
  go_ret
  exact (show Val _ _ _ _ from Val.mk' rfl (IC.out.trans (by (repeat (first | exact In.refl _ | assumption | apply In.alloc | apply In.drewN | apply In.drew | (refine In.step ?_ (by assumption)))))))
end Go.Proofs.Ythadanmiomeehac
