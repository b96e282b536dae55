import Derived.Test.YtmcfghklfkmfkaaN37
/- Chapter 37: Enter, the program. -/
namespace Go.Proofs.Ytmcfghklfkmfkaa
open Go.ChangeShapes Go.WideShapes Go.ChangeAt Go.RowKit
set_option linter.unusedVariables false
set_option linter.unusedSimpArgs false
set_option maxHeartbeats 2000000

def JIIEntF (w0 : World) (ga : Nat) (n : Nat) (ca : Nat) (b_R : Nat) (b_A : Nat) (b_E : Nat) (y0 : Int) (y1 : Int) (y2 : Int) (y3 : Int) (y4 : Int) (y5 : Int) (x0 : Int) (x1 : Int) (xs : List EventR) (a : Act) (w : World) : Prop := (∃ f : Nat → Value, a = ⟨#[Value.agg #[Value.slice (some { block := ga, off := 0 }) n ca, Value.int IntKind.i64 y0, Value.int IntKind.i64 y1, Value.int IntKind.i64 y2, Value.int IntKind.i64 y3, Value.int IntKind.i64 y4, Value.int IntKind.i64 y5], Value.agg #[Value.int IntKind.i64 x0, Value.int IntKind.i64 x1], Value.pointer (some { block := b_A, off := 0 }), Value.pointer (some { block := b_E, off := 0 }), Value.pointer (some { block := b_R, off := 0 }), Value.bool false, f 6, f 7, Value.agg #[Value.slice (some { block := ga, off := 0 }) n ca, Value.int IntKind.i64 y0, Value.int IntKind.i64 y1, Value.int IntKind.i64 y2, Value.int IntKind.i64 y3, Value.int IntKind.i64 y4, Value.int IntKind.i64 y5], Value.bool true, Value.bool false, undef, undef, f 13, f 14, f 15, f 16, f 17, f 18, f 19, f 20, f 21, f 22, undef, undef, undef, undef, undef, undef, undef, undef, undef, undef], []⟩) ∧ In w0.heap.size w0 w
def JFIEntF (B : Nat) (ga : Nat) (n : Nat) (ca : Nat) (b_R : Nat) (b_A : Nat) (b_E : Nat) (y0 : Int) (y1 : Int) (y2 : Int) (y3 : Int) (y4 : Int) (y5 : Int) (x0 : Int) (x1 : Int) (xs : List EventR) : Nat → Act → World → Prop
  | 0, a, w => a.tmps[14]? = some (.pointer (some ⟨b_A, 0, none⟩))
  | 1, a, w => a.tmps[15]? = some (.slice (some ⟨ga, 0, none⟩) n ca)
  | 2, a, w => ∃ (g0 c0 : Nat), a.tmps[16]? = some (.slice (some ⟨g0, 0, none⟩) n c0) ∧ B ≤ g0 ∧ OCEvent w g0 n c0 xs
  | 3, a, w => a.tmps[17]? = some (.agg #[.int .i64 x0, .int .i64 x1])
  | 4, a, w => ∃ (g0 c0 : Nat), a.tmps[18]? = some (.slice (some ⟨g0, 0, none⟩) 1 1) ∧ B ≤ g0 ∧ OCEvent w g0 1 1 ([⟨x0, x1⟩])
  | 5, a, w => ∃ (g0 c0 : Nat), a.tmps[19]? = some (.slice (some ⟨g0, 0, none⟩) (n + 1) c0) ∧ B ≤ g0 ∧ OCEvent w g0 (n + 1) c0 (xs ++ ([⟨x0, x1⟩]))
  | 6, a, w => a.tmps[20]? = some (.tuple #[.agg #[.slice none 0 0, .int .i64 0, .int .i64 0, .int .i64 0, .int .i64 0, .int .i64 0, .int .i64 0], .bool false])
  | 7, a, w => a.tmps[13]? = some (.tuple #[.agg #[.slice none 0 0, .int .i64 0, .int .i64 0, .int .i64 0, .int .i64 0, .int .i64 0, .int .i64 0], .bool false])
  | 8, a, w => a.tmps[21]? = some (.agg #[.slice none 0 0, .int .i64 0, .int .i64 0, .int .i64 0, .int .i64 0, .int .i64 0, .int .i64 0])
  | 9, a, w => a.tmps[22]? = some (.bool false)
  | 10, a, w => ∃ gs X0 X1 X2 X3 X4 X5 X6, B ≤ gs ∧ a.tmps[6]? = some (.pointer (some ⟨gs, 0, none⟩)) ∧ Blk w gs 43 #[X0, X1, X2, X3, X4, X5, X6]
  | 11, a, w => ∃ (gs : Nat), B ≤ gs ∧ a.tmps[6]? = some (.pointer (some ⟨gs, 0, none⟩)) ∧ Blk w gs 43 #[.slice none 0 0, .int .i64 0, .int .i64 0, .int .i64 0, .int .i64 0, .int .i64 0, .int .i64 0]
  | 12, a, w => a.tmps[7]? = some (.bool false)
  | _, _, _ => True
def JIIEntT (w0 : World) (ga : Nat) (n : Nat) (ca : Nat) (b_R : Nat) (b_A : Nat) (b_E : Nat) (y0 : Int) (y1 : Int) (y2 : Int) (y3 : Int) (y4 : Int) (y5 : Int) (x0 : Int) (x1 : Int) (s0 : Int) (s1 : Int) (s2 : Int) (s3 : Int) (s4 : Int) (s5 : Int) (xs : List EventR) (a : Act) (w : World) : Prop := (∃ f : Nat → Value, a = ⟨#[Value.agg #[Value.slice (some { block := ga, off := 0 }) n ca, Value.int IntKind.i64 y0, Value.int IntKind.i64 y1, Value.int IntKind.i64 y2, Value.int IntKind.i64 y3, Value.int IntKind.i64 y4, Value.int IntKind.i64 y5], Value.agg #[Value.int IntKind.i64 x0, Value.int IntKind.i64 x1], Value.pointer (some { block := b_A, off := 0 }), Value.pointer (some { block := b_E, off := 0 }), Value.pointer (some { block := b_R, off := 0 }), Value.bool false, f 6, f 7, Value.agg #[Value.slice (some { block := ga, off := 0 }) n ca, Value.int IntKind.i64 y0, Value.int IntKind.i64 y1, Value.int IntKind.i64 y2, Value.int IntKind.i64 y3, Value.int IntKind.i64 y4, Value.int IntKind.i64 y5], Value.bool true, Value.bool false, undef, undef, f 13, f 14, f 15, f 16, f 17, f 18, f 19, f 20, f 21, f 22, undef, undef, undef, undef, undef, undef, undef, undef, undef, undef], []⟩) ∧ In w0.heap.size w0 w
def JFIEntT (B : Nat) (ga : Nat) (n : Nat) (ca : Nat) (b_R : Nat) (b_A : Nat) (b_E : Nat) (y0 : Int) (y1 : Int) (y2 : Int) (y3 : Int) (y4 : Int) (y5 : Int) (x0 : Int) (x1 : Int) (s0 : Int) (s1 : Int) (s2 : Int) (s3 : Int) (s4 : Int) (s5 : Int) (xs : List EventR) : Nat → Act → World → Prop
  | 0, a, w => a.tmps[14]? = some (.pointer (some ⟨b_A, 0, none⟩))
  | 1, a, w => a.tmps[15]? = some (.slice (some ⟨ga, 0, none⟩) n ca)
  | 2, a, w => ∃ (g0 c0 : Nat), a.tmps[16]? = some (.slice (some ⟨g0, 0, none⟩) n c0) ∧ B ≤ g0 ∧ OCEvent w g0 n c0 xs
  | 3, a, w => a.tmps[17]? = some (.agg #[.int .i64 x0, .int .i64 x1])
  | 4, a, w => ∃ (g0 c0 : Nat), a.tmps[18]? = some (.slice (some ⟨g0, 0, none⟩) 1 1) ∧ B ≤ g0 ∧ OCEvent w g0 1 1 ([⟨x0, x1⟩])
  | 5, a, w => ∃ (g0 c0 : Nat), a.tmps[19]? = some (.slice (some ⟨g0, 0, none⟩) (n + 1) c0) ∧ B ≤ g0 ∧ OCEvent w g0 (n + 1) c0 (xs ++ ([⟨x0, x1⟩]))
  | 6, a, w => ∃ (g0 c0 : Nat), a.tmps[20]? = some (.tuple #[.agg #[.slice (some ⟨g0, 0, none⟩) (n + 1) c0, .int .i64 s0, .int .i64 s1, .int .i64 s2, .int .i64 s3, .int .i64 s4, .int .i64 s5], .bool true]) ∧ B ≤ g0 ∧ OCEvent w g0 (n + 1) c0 (xs ++ [⟨x0, x1⟩])
  | 7, a, w => ∃ (g0 c0 : Nat), a.tmps[13]? = some (.tuple #[.agg #[.slice (some ⟨g0, 0, none⟩) (n + 1) c0, .int .i64 s0, .int .i64 s1, .int .i64 s2, .int .i64 s3, .int .i64 s4, .int .i64 s5], .bool true]) ∧ B ≤ g0 ∧ OCEvent w g0 (n + 1) c0 (xs ++ [⟨x0, x1⟩])
  | 8, a, w => ∃ (g0 c0 : Nat), a.tmps[21]? = some (.agg #[.slice (some ⟨g0, 0, none⟩) (n + 1) c0, .int .i64 s0, .int .i64 s1, .int .i64 s2, .int .i64 s3, .int .i64 s4, .int .i64 s5]) ∧ B ≤ g0 ∧ OCEvent w g0 (n + 1) c0 (xs ++ [⟨x0, x1⟩])
  | 9, a, w => a.tmps[22]? = some (.bool true)
  | 10, a, w => ∃ gs X0 X1 X2 X3 X4 X5 X6, B ≤ gs ∧ a.tmps[6]? = some (.pointer (some ⟨gs, 0, none⟩)) ∧ Blk w gs 43 #[X0, X1, X2, X3, X4, X5, X6]
  | 11, a, w => ∃ (gs g0 c0 : Nat), B ≤ gs ∧ a.tmps[6]? = some (.pointer (some ⟨gs, 0, none⟩)) ∧ Blk w gs 43 #[.slice (some ⟨g0, 0, none⟩) (n + 1) c0, .int .i64 s0, .int .i64 s1, .int .i64 s2, .int .i64 s3, .int .i64 s4, .int .i64 s5] ∧ B ≤ g0 ∧ OCEvent w g0 (n + 1) c0 (xs ++ [⟨x0, x1⟩])
  | 12, a, w => a.tmps[7]? = some (.bool true)
  | _, _, _ => True
set_option maxHeartbeats 4000000 in
theorem iEnter (ga n ca : Nat) (xs : List EventR) (y0 y1 y2 y3 y4 y5 : Int) (x0 x1 : Int) (w : World) (hn : (n : Int) ≤ 1048577) (hx : ReadsEvent w (some ⟨ga, 0, none⟩) n xs) : Calls Try.prog 42 #[.agg #[.slice (some ⟨ga, 0, none⟩) n ca, .int .i64 y0, .int .i64 y1, .int .i64 y2, .int .i64 y3, .int .i64 y4, .int .i64 y5], .agg #[.int .i64 x0, .int .i64 x1]] w (RowBkV (enL n xs y0 y1 y2 y3 y4 y5 x0 x1).length (enL n xs y0 y1 y2 y3 y4 y5 x0 x1) (enS n xs y0 y1 y2 y3 y4 y5 x0 x1) (.bool (enB n xs y0 y1 y2 y3 y4 y5 x0 x1)) w) := by
  have HX := Lib.hid hx
  have hlen := hx.1
  clear hx
  obtain ⟨b_A, hbx_A⟩ : ∃ b, b = w.heap.size := ⟨_, rfl⟩
  have kk_A : Blk (((w.alloc (.cells #[.slice (some ⟨ga, 0, none⟩) n ca, .int .i64 y0, .int .i64 y1, .int .i64 y2, .int .i64 y3, .int .i64 y4, .int .i64 y5] 43)).alloc (.cells #[.int .i64 x0, .int .i64 x1] 78)).alloc (.cells #[.slice none 0 0, .int .i64 0, .int .i64 0, .int .i64 0, .int .i64 0, .int .i64 0, .int .i64 0] 43)) b_A 43 #[.slice (some ⟨ga, 0, none⟩) n ca, .int .i64 y0, .int .i64 y1, .int .i64 y2, .int .i64 y3, .int .i64 y4, .int .i64 y5] := (((Blk.new' (w := w) (t := 43) (cs := #[.slice (some ⟨ga, 0, none⟩) n ca, .int .i64 y0, .int .i64 y1, .int .i64 y2, .int .i64 y3, .int .i64 y4, .int .i64 y5]) (g := b_A) (by simp [hbx_A])).alloc (.cells #[.int .i64 x0, .int .i64 x1] 78)).alloc (.cells #[.slice none 0 0, .int .i64 0, .int .i64 0, .int .i64 0, .int .i64 0, .int .i64 0, .int .i64 0] 43))
  have hwb_A : w.heap.size ≤ b_A := by omega
  obtain ⟨b_E, hbx_E⟩ : ∃ b, b = w.heap.size + 1 := ⟨_, rfl⟩
  have kk_E : Blk (((w.alloc (.cells #[.slice (some ⟨ga, 0, none⟩) n ca, .int .i64 y0, .int .i64 y1, .int .i64 y2, .int .i64 y3, .int .i64 y4, .int .i64 y5] 43)).alloc (.cells #[.int .i64 x0, .int .i64 x1] 78)).alloc (.cells #[.slice none 0 0, .int .i64 0, .int .i64 0, .int .i64 0, .int .i64 0, .int .i64 0, .int .i64 0] 43)) b_E 78 #[.int .i64 x0, .int .i64 x1] := ((Blk.new' (w := (w.alloc (.cells #[.slice (some ⟨ga, 0, none⟩) n ca, .int .i64 y0, .int .i64 y1, .int .i64 y2, .int .i64 y3, .int .i64 y4, .int .i64 y5] 43))) (t := 78) (cs := #[.int .i64 x0, .int .i64 x1]) (g := b_E) (by simp [hbx_E])).alloc (.cells #[.slice none 0 0, .int .i64 0, .int .i64 0, .int .i64 0, .int .i64 0, .int .i64 0, .int .i64 0] 43))
  have hwb_E : w.heap.size ≤ b_E := by omega
  obtain ⟨b_R, hbx_R⟩ : ∃ b, b = w.heap.size + 1 + 1 := ⟨_, rfl⟩
  have kk_R : Blk (((w.alloc (.cells #[.slice (some ⟨ga, 0, none⟩) n ca, .int .i64 y0, .int .i64 y1, .int .i64 y2, .int .i64 y3, .int .i64 y4, .int .i64 y5] 43)).alloc (.cells #[.int .i64 x0, .int .i64 x1] 78)).alloc (.cells #[.slice none 0 0, .int .i64 0, .int .i64 0, .int .i64 0, .int .i64 0, .int .i64 0, .int .i64 0] 43)) b_R 43 #[.slice none 0 0, .int .i64 0, .int .i64 0, .int .i64 0, .int .i64 0, .int .i64 0, .int .i64 0] := (Blk.new' (w := ((w.alloc (.cells #[.slice (some ⟨ga, 0, none⟩) n ca, .int .i64 y0, .int .i64 y1, .int .i64 y2, .int .i64 y3, .int .i64 y4, .int .i64 y5] 43)).alloc (.cells #[.int .i64 x0, .int .i64 x1] 78))) (t := 43) (cs := #[.slice none 0 0, .int .i64 0, .int .i64 0, .int .i64 0, .int .i64 0, .int .i64 0, .int .i64 0]) (g := b_R) (by simp [hbx_R]))
  have hwb_R : w.heap.size ≤ b_R := by omega
  have NB_A_E : Hid (b_A ≠ b_E) := Lib.hid (by omega)
  have NB_A_R : Hid (b_A ≠ b_R) := Lib.hid (by omega)
  have NB_E_R : Hid (b_E ≠ b_R) := Lib.hid (by omega)
  have hb_0 : Below w.heap.size w (((w.alloc (.cells #[.slice (some ⟨ga, 0, none⟩) n ca, .int .i64 y0, .int .i64 y1, .int .i64 y2, .int .i64 y3, .int .i64 y4, .int .i64 y5] 43)).alloc (.cells #[.int .i64 x0, .int .i64 x1] 78)).alloc (.cells #[.slice none 0 0, .int .i64 0, .int .i64 0, .int .i64 0, .int .i64 0, .int .i64 0, .int .i64 0] 43)) := by
    have h : In w.heap.size w (((w.alloc (.cells #[.slice (some ⟨ga, 0, none⟩) n ca, .int .i64 y0, .int .i64 y1, .int .i64 y2, .int .i64 y3, .int .i64 y4, .int .i64 y5] 43)).alloc (.cells #[.int .i64 x0, .int .i64 x1] 78)).alloc (.cells #[.slice none 0 0, .int .i64 0, .int .i64 0, .int .i64 0, .int .i64 0, .int .i64 0, .int .i64 0] 43)) := by (repeat (first | exact In.refl _ | assumption | apply In.alloc | apply In.drewN | apply In.drew | (refine In.step ?_ (by assumption))))
    exact h.below
  have hsz_0 : (((w.alloc (.cells #[.slice (some ⟨ga, 0, none⟩) n ca, .int .i64 y0, .int .i64 y1, .int .i64 y2, .int .i64 y3, .int .i64 y4, .int .i64 y5] 43)).alloc (.cells #[.int .i64 x0, .int .i64 x1] 78)).alloc (.cells #[.slice none 0 0, .int .i64 0, .int .i64 0, .int .i64 0, .int .i64 0, .int .i64 0, .int .i64 0] 43)).heap.size = b_R + 1 := by simp [hbx_R]
  go_enter Try.func42, Try.ntmps42
  go_wp2_with fail
  rw [← hbx_R]
  clear hbx_R
  rw [← hbx_E]
  clear hbx_E
  rw [← hbx_A]
  clear hbx_A
  generalize (((w.alloc (.cells #[.slice (some ⟨ga, 0, none⟩) n ca, .int .i64 y0, .int .i64 y1, .int .i64 y2, .int .i64 y3, .int .i64 y4, .int .i64 y5] 43)).alloc (.cells #[.int .i64 x0, .int .i64 x1] 78)).alloc (.cells #[.slice none 0 0, .int .i64 0, .int .i64 0, .int .i64 0, .int .i64 0, .int .i64 0, .int .i64 0] 43)) = w_0 at *
  have i_0 : In w.heap.size w w_0 := In.step (by (repeat (first | exact In.refl _ | assumption | apply In.alloc | apply In.drewN | apply In.drew | (refine In.step ?_ (by assumption))))) hb_0
  have k_0_A : Blk w_0 b_A 43 #[.slice (some ⟨ga, 0, none⟩) n ca, .int .i64 y0, .int .i64 y1, .int .i64 y2, .int .i64 y3, .int .i64 y4, .int .i64 y5] := kk_A
  obtain ⟨c_0_A_0, c_0_A_1, c_0_A_2, c_0_A_3, c_0_A_4, c_0_A_5, c_0_A_6⟩ := cells7 k_0_A
  have l_0_A := k_0_A.lt
  have k_0_E : Blk w_0 b_E 78 #[.int .i64 x0, .int .i64 x1] := kk_E
  obtain ⟨c_0_E_0, c_0_E_1⟩ := cells2 k_0_E
  have l_0_E := k_0_E.lt
  have k_0_R : Blk w_0 b_R 43 #[.slice none 0 0, .int .i64 0, .int .i64 0, .int .i64 0, .int .i64 0, .int .i64 0, .int .i64 0] := kk_R
  obtain ⟨c_0_R_0, c_0_R_1, c_0_R_2, c_0_R_3, c_0_R_4, c_0_R_5, c_0_R_6⟩ := cells7 k_0_R
  have l_0_R := k_0_R.lt
  have z_0_R := k_0_R.frozen
  clear kk_A kk_E kk_R
  go_wp2_with fail
  refine (iBookOk ga n ca xs y0 y1 y2 y3 y4 y5 _ hn (HX.out.in_ (by (repeat (first | exact In.refl _ | assumption | apply In.alloc | apply In.drewN | apply In.drew | (refine In.step ?_ (by assumption))))))).mono ?_
  rintro _ w_1 ⟨rfl, hb_1⟩
  have i_1 : In w.heap.size w w_1 := In.step (by (repeat (first | exact In.refl _ | assumption | apply In.alloc | apply In.drewN | apply In.drew | (refine In.step ?_ (by assumption))))) hb_1
  have k_1_A : Blk w_1 b_A 43 #[.slice (some ⟨ga, 0, none⟩) n ca, .int .i64 y0, .int .i64 y1, .int .i64 y2, .int .i64 y3, .int .i64 y4, .int .i64 y5] := Blk.step (by (with_reducible (repeat (first | assumption | exact Blk.new' (by simp) | apply Blk.drewN | apply Blk.drew | apply Blk.alloc | (refine Blk.far ?_ (by (try simp) <;> omega) _))))) hb_1
  obtain ⟨c_1_A_0, c_1_A_1, c_1_A_2, c_1_A_3, c_1_A_4, c_1_A_5, c_1_A_6⟩ := cells7 k_1_A
  have l_1_A := k_1_A.lt
  have k_1_E : Blk w_1 b_E 78 #[.int .i64 x0, .int .i64 x1] := Blk.step (by (with_reducible (repeat (first | assumption | exact Blk.new' (by simp) | apply Blk.drewN | apply Blk.drew | apply Blk.alloc | (refine Blk.far ?_ (by (try simp) <;> omega) _))))) hb_1
  obtain ⟨c_1_E_0, c_1_E_1⟩ := cells2 k_1_E
  have l_1_E := k_1_E.lt
  have k_1_R : Blk w_1 b_R 43 #[.slice none 0 0, .int .i64 0, .int .i64 0, .int .i64 0, .int .i64 0, .int .i64 0, .int .i64 0] := Blk.step (by (with_reducible (repeat (first | assumption | exact Blk.new' (by simp) | apply Blk.drewN | apply Blk.drew | apply Blk.alloc | (refine Blk.far ?_ (by (try simp) <;> omega) _))))) hb_1
  obtain ⟨c_1_R_0, c_1_R_1, c_1_R_2, c_1_R_3, c_1_R_4, c_1_R_5, c_1_R_6⟩ := cells7 k_1_R
  have l_1_R := k_1_R.lt
  have z_1_R := k_1_R.frozen
  clear i_0 k_0_A c_0_A_0 c_0_A_1 c_0_A_2 c_0_A_3 c_0_A_4 c_0_A_5 c_0_A_6 l_0_A k_0_E c_0_E_0 c_0_E_1 l_0_E k_0_R c_0_R_0 c_0_R_1 c_0_R_2 c_0_R_3 c_0_R_4 c_0_R_5 c_0_R_6 l_0_R z_0_R hb_0
  cases h1 : bkB n xs y0 y1 y2 y3 y4 y5
  · have HV : Hid (enB n xs y0 y1 y2 y3 y4 y5 x0 x1 = false) := Lib.hid (by rw [enB, h1]; rfl)
    go_wp2_with fail
    refine (i37Copy ga n ca xs y0 y1 y2 y3 y4 y5 _ (by omega) (HX.out.in_ (by (repeat (first | exact In.refl _ | assumption | apply In.alloc | apply In.drewN | apply In.drew | (refine In.step ?_ (by assumption))))))).mono ?_
    rintro _ w_2 ⟨gC_2, cC_2, rfl, hoC_2, hgC_2, hb_2⟩
    have GX_C : Hid (w.heap.size ≤ gC_2) := Lib.hid (by have h1 := hgC_2; (try simp at h1); have h2 := In.size i_1; omega)
    have o_2_C : OCEvent w_2 gC_2 (n) cC_2 xs := hoC_2
    clear hoC_2 hgC_2
    have i_2 : In w.heap.size w w_2 := In.step (by (repeat (first | exact In.refl _ | assumption | apply In.alloc | apply In.drewN | apply In.drew | (refine In.step ?_ (by assumption))))) hb_2
    have k_2_A : Blk w_2 b_A 43 #[.slice (some ⟨ga, 0, none⟩) n ca, .int .i64 y0, .int .i64 y1, .int .i64 y2, .int .i64 y3, .int .i64 y4, .int .i64 y5] := Blk.step (by (with_reducible (repeat (first | assumption | exact Blk.new' (by simp) | apply Blk.drewN | apply Blk.drew | apply Blk.alloc | (refine Blk.far ?_ (by (try simp) <;> omega) _))))) hb_2
    obtain ⟨c_2_A_0, c_2_A_1, c_2_A_2, c_2_A_3, c_2_A_4, c_2_A_5, c_2_A_6⟩ := cells7 k_2_A
    have l_2_A := k_2_A.lt
    have k_2_E : Blk w_2 b_E 78 #[.int .i64 x0, .int .i64 x1] := Blk.step (by (with_reducible (repeat (first | assumption | exact Blk.new' (by simp) | apply Blk.drewN | apply Blk.drew | apply Blk.alloc | (refine Blk.far ?_ (by (try simp) <;> omega) _))))) hb_2
    obtain ⟨c_2_E_0, c_2_E_1⟩ := cells2 k_2_E
    have l_2_E := k_2_E.lt
    have k_2_R : Blk w_2 b_R 43 #[.slice none 0 0, .int .i64 0, .int .i64 0, .int .i64 0, .int .i64 0, .int .i64 0, .int .i64 0] := Blk.step (by (with_reducible (repeat (first | assumption | exact Blk.new' (by simp) | apply Blk.drewN | apply Blk.drew | apply Blk.alloc | (refine Blk.far ?_ (by (try simp) <;> omega) _))))) hb_2
    obtain ⟨c_2_R_0, c_2_R_1, c_2_R_2, c_2_R_3, c_2_R_4, c_2_R_5, c_2_R_6⟩ := cells7 k_2_R
    have l_2_R := k_2_R.lt
    have z_2_R := k_2_R.frozen
    clear i_1 k_1_A c_1_A_0 c_1_A_1 c_1_A_2 c_1_A_3 c_1_A_4 c_1_A_5 c_1_A_6 l_1_A k_1_E c_1_E_0 c_1_E_1 l_1_E k_1_R c_1_R_0 c_1_R_1 c_1_R_2 c_1_R_3 c_1_R_4 c_1_R_5 c_1_R_6 l_1_R z_1_R hb_1
    have hn1_R_A : b_A ≠ b_R := by first | exact NB_A_R.out | exact NB_R_A.out.symm
    have hn2_R_A : b_R ≠ b_A := hn1_R_A.symm
    have hn1_R_E : b_E ≠ b_R := by first | exact NB_E_R.out | exact NB_R_E.out.symm
    have hn2_R_E : b_R ≠ b_E := hn1_R_E.symm
    have kk : Blk (((((((w_2.setCell ⟨b_R, 0, none⟩ (.slice (some ⟨gC_2, 0, none⟩) n cC_2)).setCell ⟨b_R, 1, none⟩ (.int .i64 y0)).setCell ⟨b_R, 2, none⟩ (.int .i64 y1)).setCell ⟨b_R, 3, none⟩ (.int .i64 y2)).setCell ⟨b_R, 4, none⟩ (.int .i64 y3)).setCell ⟨b_R, 5, none⟩ (.int .i64 y4)).setCell ⟨b_R, 6, none⟩ (.int .i64 y5)) b_R 43 #[.slice (some ⟨gC_2, 0, none⟩) n cC_2, .int .i64 y0, .int .i64 y1, .int .i64 y2, .int .i64 y3, .int .i64 y4, .int .i64 y5] := blks7 k_2_R
    have i9 : In w.heap.size w (((((((w_2.setCell ⟨b_R, 0, none⟩ (.slice (some ⟨gC_2, 0, none⟩) n cC_2)).setCell ⟨b_R, 1, none⟩ (.int .i64 y0)).setCell ⟨b_R, 2, none⟩ (.int .i64 y1)).setCell ⟨b_R, 3, none⟩ (.int .i64 y2)).setCell ⟨b_R, 4, none⟩ (.int .i64 y3)).setCell ⟨b_R, 5, none⟩ (.int .i64 y4)).setCell ⟨b_R, 6, none⟩ (.int .i64 y5)) := ins7 i_2 hwb_R
    have OC : Hid (OCEvent (((((((w_2.setCell ⟨b_R, 0, none⟩ (.slice (some ⟨gC_2, 0, none⟩) n cC_2)).setCell ⟨b_R, 1, none⟩ (.int .i64 y0)).setCell ⟨b_R, 2, none⟩ (.int .i64 y1)).setCell ⟨b_R, 3, none⟩ (.int .i64 y2)).setCell ⟨b_R, 4, none⟩ (.int .i64 y3)).setCell ⟨b_R, 5, none⟩ (.int .i64 y4)).setCell ⟨b_R, 6, none⟩ (.int .i64 y5)) gC_2 (n) cC_2 xs) := Lib.hid (OCEvent.far o_2_C k_2_R (by decide) only7)
    have HK0 : Hid ((_ : World).cell? ⟨b_R, 0, none⟩ = some (.slice (some ⟨gC_2, 0, none⟩) n cC_2)) := Lib.hid (kk.cell 0)
    have HK1 : Hid ((_ : World).cell? ⟨b_R, 1, none⟩ = some (.int .i64 y0)) := Lib.hid (kk.cell 1)
    have HK2 : Hid ((_ : World).cell? ⟨b_R, 2, none⟩ = some (.int .i64 y1)) := Lib.hid (kk.cell 2)
    have HK3 : Hid ((_ : World).cell? ⟨b_R, 3, none⟩ = some (.int .i64 y2)) := Lib.hid (kk.cell 3)
    have HK4 : Hid ((_ : World).cell? ⟨b_R, 4, none⟩ = some (.int .i64 y3)) := Lib.hid (kk.cell 4)
    have HK5 : Hid ((_ : World).cell? ⟨b_R, 5, none⟩ = some (.int .i64 y4)) := Lib.hid (kk.cell 5)
    have HK6 : Hid ((_ : World).cell? ⟨b_R, 6, none⟩ = some (.int .i64 y5)) := Lib.hid (kk.cell 6)
    clear kk
    clear o_2_C
    go_wp2
    have hk0 := HK0.out
    have hk1 := HK1.out
    have hk2 := HK2.out
    have hk3 := HK3.out
    have hk4 := HK4.out
    have hk5 := HK5.out
    have hk6 := HK6.out
    exact bodyPost_ret (v := .tuple #[.agg #[.slice (some ⟨gC_2, 0, none⟩) n cC_2, .int .i64 y0, .int .i64 y1, .int .i64 y2, .int .i64 y3, .int .i64 y4, .int .i64 y5], .bool false]) (by simp [results, Try.results42, go_sem, hk0, hk1, hk2, hk3, hk4, hk5, hk6]) rfl (rowBkV_of (s := ⟨y0, y1, y2, y3, y4, y5⟩) (by simp [enL, HV.out]) (by simp [enS, HV.out]) (by rw [HV.out]) OC.out GX_C.out i9.below)
  have h40 : (n : Int) ≤ 40 := by have := (bk_at h1).1; omega
  have H1 := Lib.hid h1
  clear h1
  cases hcnt : cntB (xs ++ [⟨x0, x1⟩]) (n + 1)
  · have HCT : Hid (∀ (g c : Nat) (W : World), OCEvent W g (n + 1) c (xs ++ [⟨x0, x1⟩]) → Calls Try.prog 72 #[.slice (some ⟨g, 0, none⟩) (n + 1) c] W (fun e w' => e = .returned (.tuple #[.agg #[.slice none 0 0, .int .i64 0, .int .i64 0, .int .i64 0, .int .i64 0, .int .i64 0, .int .i64 0], .bool false]) ∧ Below W.heap.size W w')) := Lib.hid (fun g c W h => (ibookOf g (n + 1) c _ W (by omega) h.reads).mono (by
      rintro e w2 (⟨_, h1, h2⟩ | ⟨h1, _⟩)
      · exact ⟨h1, h2⟩
      · rw [hcnt] at h1; cases h1))
    have HCNT := Lib.hid hcnt
    clear hcnt
    go_wp2_with fail
    obtain ⟨B_1, hB_1⟩ : ∃ B, B = w_1.heap.size := ⟨_, rfl⟩
    have hBl_1 : B_1 ≤ w_1.heap.size := by omega
    have hBg_1 : w_1.heap.size ≤ B_1 := by omega
    clear hB_1
    refine wp_region_facts2 (JIIEntF w_1 ga n ca b_R b_A b_E y0 y1 y2 y3 y4 y5 x0 x1 xs) (JFIEntF B_1 ga n ca b_R b_A b_E y0 y1 y2 y3 y4 y5 x0 x1 xs) (fun j => j == 11 || j == 12) (fun k j => (k == 1 && (j == 0)) || (k == 2 && (j == 1)) || (k == 4 && (j == 3)) || (k == 5 && (j == 2 || j == 4)) || (k == 6 && (j == 5)) || (k == 7 && (j == 6)) || (k == 8 && (j == 7)) || (k == 9 && (j == 7)) || (k == 11 && (j == 8 || j == 10)) || (k == 12 && (j == 9))) (by kernel_rfl) (by kernel_rfl) ⟨⟨fun j => undef, rfl⟩, (In.refl _).drew⟩ ?_ ?_
    · intro a v1 i o ho hI haf
      obtain ⟨⟨f, rfl⟩, hin⟩ := hI
      have kv_A : Blk v1 b_A 43 #[.slice (some ⟨ga, 0, none⟩) n ca, .int .i64 y0, .int .i64 y1, .int .i64 y2, .int .i64 y3, .int .i64 y4, .int .i64 y5] := Blk.step k_1_A hin.below
      have cv_A_0 := kv_A.cell 0
      have cv_A_1 := kv_A.cell 1
      have cv_A_2 := kv_A.cell 2
      have cv_A_3 := kv_A.cell 3
      have cv_A_4 := kv_A.cell 4
      have cv_A_5 := kv_A.cell 5
      have cv_A_6 := kv_A.cell 6
      have kv_E : Blk v1 b_E 78 #[.int .i64 x0, .int .i64 x1] := Blk.step k_1_E hin.below
      have cv_E_0 := kv_E.cell 0
      have cv_E_1 := kv_E.cell 1
      have kv_R : Blk v1 b_R 43 #[.slice none 0 0, .int .i64 0, .int .i64 0, .int .i64 0, .int .i64 0, .int .i64 0, .int .i64 0] := Blk.step k_1_R hin.below
      have cv_R_0 := kv_R.cell 0
      have cv_R_1 := kv_R.cell 1
      have cv_R_2 := kv_R.cell 2
      have cv_R_3 := kv_R.cell 3
      have cv_R_4 := kv_R.cell 4
      have cv_R_5 := kv_R.cell 5
      have cv_R_6 := kv_R.cell 6
      have hi : i < 13 := by
        rcases Nat.lt_or_ge i 13 with h | h
        · exact h
        · simp [h] at ho
      suffices H : ∀ K : Act → World → Prop, (∀ a' w', ((JIIEntF w_1 ga n ca b_R b_A b_E y0 y1 y2 y3 y4 y5 x0 x1 xs) a' w' ∧ (JFIEntF B_1 ga n ca b_R b_A b_E y0 y1 y2 y3 y4 y5 x0 x1 xs) i a' w' ∧ ∀ j, j ≠ i → waitsT _ 6 j i = false → ((fun j => j == 11 || j == 12) j || usesB _ (fun k j => (k == 1 && (j == 0)) || (k == 2 && (j == 1)) || (k == 4 && (j == 3)) || (k == 5 && (j == 2 || j == 4)) || (k == 6 && (j == 5)) || (k == 7 && (j == 6)) || (k == 8 && (j == 7)) || (k == 9 && (j == 7)) || (k == 11 && (j == 8 || j == 10)) || (k == 12 && (j == 9))) i j) = true → (JFIEntF B_1 ga n ca b_R b_A b_E y0 y1 y2 y3 y4 y5 x0 x1 xs) j ⟨#[Value.agg #[Value.slice (some { block := ga, off := 0 }) n ca, Value.int IntKind.i64 y0, Value.int IntKind.i64 y1, Value.int IntKind.i64 y2, Value.int IntKind.i64 y3, Value.int IntKind.i64 y4, Value.int IntKind.i64 y5], Value.agg #[Value.int IntKind.i64 x0, Value.int IntKind.i64 x1], Value.pointer (some { block := b_A, off := 0 }), Value.pointer (some { block := b_E, off := 0 }), Value.pointer (some { block := b_R, off := 0 }), Value.bool false, f 6, f 7, Value.agg #[Value.slice (some { block := ga, off := 0 }) n ca, Value.int IntKind.i64 y0, Value.int IntKind.i64 y1, Value.int IntKind.i64 y2, Value.int IntKind.i64 y3, Value.int IntKind.i64 y4, Value.int IntKind.i64 y5], Value.bool true, Value.bool false, undef, undef, f 13, f 14, f 15, f 16, f 17, f 18, f 19, f 20, f 21, f 22, undef, undef, undef, undef, undef, undef, undef, undef, undef, undef], []⟩ v1 → (JFIEntF B_1 ga n ca b_R b_A b_E y0 y1 y2 y3 y4 y5 x0 x1 xs) j a' w') → K a' w') → wpOp _ _ _ i K ⟨#[Value.agg #[Value.slice (some { block := ga, off := 0 }) n ca, Value.int IntKind.i64 y0, Value.int IntKind.i64 y1, Value.int IntKind.i64 y2, Value.int IntKind.i64 y3, Value.int IntKind.i64 y4, Value.int IntKind.i64 y5], Value.agg #[Value.int IntKind.i64 x0, Value.int IntKind.i64 x1], Value.pointer (some { block := b_A, off := 0 }), Value.pointer (some { block := b_E, off := 0 }), Value.pointer (some { block := b_R, off := 0 }), Value.bool false, f 6, f 7, Value.agg #[Value.slice (some { block := ga, off := 0 }) n ca, Value.int IntKind.i64 y0, Value.int IntKind.i64 y1, Value.int IntKind.i64 y2, Value.int IntKind.i64 y3, Value.int IntKind.i64 y4, Value.int IntKind.i64 y5], Value.bool true, Value.bool false, undef, undef, f 13, f 14, f 15, f 16, f 17, f 18, f 19, f 20, f 21, f 22, undef, undef, undef, undef, undef, undef, undef, undef, undef, undef], []⟩ v1 from H _ fun _ _ h => h
      intro K hK
      rcases (by omega : i = 0 ∨ i = 1 ∨ i = 2 ∨ i = 3 ∨ i = 4 ∨ i = 5 ∨ i = 6 ∨ i = 7 ∨ i = 8 ∨ i = 9 ∨ i = 10 ∨ i = 11 ∨ i = 12) with rfl | rfl | rfl | rfl | rfl | rfl | rfl | rfl | rfl | rfl | rfl | rfl | rfl
      · obtain rfl := Option.some.inj ho
        refine wpOp_plain rfl rfl ?_
        unfold Oper.wp
        go_simp
        exact hK _ _ ⟨⟨⟨updf f 14 (.pointer (some ⟨b_A, 0, none⟩)), rfl⟩, hin⟩, rfl, fun j hj hw hu hf => by
            rcases j with _ | _ | _ | _ | _ | _ | _ | _ | _ | _ | _ | _ | _ | j
            · exact absurd rfl hj
            · first | (have h9 : _ = _ := hf; exact h9) | rfl
            · exact hf
            · first | (have h9 : _ = _ := hf; exact h9) | rfl
            · exact hf
            · exact hf
            · first | (have h9 : _ = _ := hf; exact h9) | rfl
            · first | (have h9 : _ = _ := hf; exact h9) | rfl
            · first | (have h9 : _ = _ := hf; exact h9) | rfl
            · first | (have h9 : _ = _ := hf; exact h9) | rfl
            · exact hf
            · exact hf
            · first | (have h9 : _ = _ := hf; exact h9) | rfl
            · exact trivial⟩
      · obtain rfl := Option.some.inj ho
        have f0 := haf { on := 0, ground := .data } (by simp) rfl rfl
        have f0 : _ = _ := Option.some.inj f0
        refine wpOp_plain rfl rfl ?_
        unfold Oper.wp
        go_simp
        exact hK _ _ ⟨⟨⟨updf f 15 (.slice (some ⟨ga, 0, none⟩) n ca), rfl⟩, hin⟩, rfl, fun j hj hw hu hf => by
            rcases j with _ | _ | _ | _ | _ | _ | _ | _ | _ | _ | _ | _ | _ | j
            · first | (have h9 : _ = _ := hf; exact h9) | rfl
            · exact absurd rfl hj
            · exact hf
            · first | (have h9 : _ = _ := hf; exact h9) | rfl
            · exact hf
            · exact hf
            · first | (have h9 : _ = _ := hf; exact h9) | rfl
            · first | (have h9 : _ = _ := hf; exact h9) | rfl
            · first | (have h9 : _ = _ := hf; exact h9) | rfl
            · first | (have h9 : _ = _ := hf; exact h9) | rfl
            · exact hf
            · exact hf
            · first | (have h9 : _ = _ := hf; exact h9) | rfl
            · exact trivial⟩
      · obtain rfl := Option.some.inj ho
        have f1 := haf { on := 1, ground := .data } (by simp) rfl rfl
        have f1 : _ = _ := Option.some.inj f1
        refine wpOp_plain rfl rfl ?_
        unfold Oper.wp
        go_simp
        refine (iCloneE ga n ca xs _ (by omega) (HX.out.in_ (i_1.trans hin))).mono ?_
        rintro _ v2 ⟨g0_N, c0_N, rfl, ho0, hg0, hb2⟩
        exact hK _ _ ⟨⟨⟨updf f 16 (.slice (some ⟨g0_N, 0, none⟩) n c0_N), rfl⟩, hin.step hb2⟩, ⟨g0_N, c0_N, rfl, Nat.le_trans (Nat.le_trans hBl_1 hin.size) hg0, ho0⟩, fun j hj hw hu hf => by
            rcases j with _ | _ | _ | _ | _ | _ | _ | _ | _ | _ | _ | _ | _ | j
            · first | (have h9 : _ = _ := hf; exact h9) | rfl
            · first | (have h9 : _ = _ := hf; exact h9) | rfl
            · exact absurd rfl hj
            · first | (have h9 : _ = _ := hf; exact h9) | rfl
            · first | (obtain ⟨g0, c0, h0, b0, o0⟩ := hf; exact ⟨g0, c0, h0, b0, o0.step hb2⟩)
            · exact absurd (hw.symm.trans (show waitsT _ 6 _ _ = true by kernel_rfl)) (by decide)
            · first | (have h9 : _ = _ := hf; exact h9) | rfl
            · first | (have h9 : _ = _ := hf; exact h9) | rfl
            · first | (have h9 : _ = _ := hf; exact h9) | rfl
            · first | (have h9 : _ = _ := hf; exact h9) | rfl
            · first | (obtain ⟨gs, X0, X1, X2, X3, X4, X5, X6, h0, h1, h2⟩ := hf; exact ⟨gs, X0, X1, X2, X3, X4, X5, X6, h0, h1, h2.step hb2⟩)
            · exact absurd (hw.symm.trans (show waitsT _ 6 _ _ = true by kernel_rfl)) (by decide)
            · first | (have h9 : _ = _ := hf; exact h9) | rfl
            · exact trivial⟩
      · obtain rfl := Option.some.inj ho
        refine wpOp_plain rfl rfl ?_
        unfold Oper.wp
        go_simp
        exact hK _ _ ⟨⟨⟨updf f 17 (.agg #[.int .i64 x0, .int .i64 x1]), rfl⟩, hin⟩, rfl, fun j hj hw hu hf => by
            rcases j with _ | _ | _ | _ | _ | _ | _ | _ | _ | _ | _ | _ | _ | j
            · first | (have h9 : _ = _ := hf; exact h9) | rfl
            · first | (have h9 : _ = _ := hf; exact h9) | rfl
            · exact hf
            · exact absurd rfl hj
            · exact hf
            · exact hf
            · first | (have h9 : _ = _ := hf; exact h9) | rfl
            · first | (have h9 : _ = _ := hf; exact h9) | rfl
            · first | (have h9 : _ = _ := hf; exact h9) | rfl
            · first | (have h9 : _ = _ := hf; exact h9) | rfl
            · exact hf
            · exact hf
            · first | (have h9 : _ = _ := hf; exact h9) | rfl
            · exact trivial⟩
      · obtain rfl := Option.some.inj ho
        have f3 := haf { on := 3, ground := .data } (by simp) rfl rfl
        have f3 : f 17 = _ := Option.some.inj f3
        rw [f3]
        refine wpOp_plain rfl rfl ?_
        unfold Oper.wp
        go_simp
        exact hK _ _ ⟨⟨⟨updf (updf (f) 17 (.agg #[.int .i64 x0, .int .i64 x1])) 18 (.slice (some ⟨v1.heap.size, 0, none⟩) 1 1), rfl⟩, hin.alloc _⟩, ⟨v1.heap.size, 0, rfl, Nat.le_trans hBl_1 hin.size, OCEvent.lit1 v1 ⟨x0, x1⟩⟩, fun j hj hw hu hf => by
            rcases j with _ | _ | _ | _ | _ | _ | _ | _ | _ | _ | _ | _ | _ | j
            · first | (have h9 : _ = _ := hf; exact h9) | rfl
            · first | (have h9 : _ = _ := hf; exact h9) | rfl
            · first | (obtain ⟨g0, c0, h0, b0, o0⟩ := hf; exact ⟨g0, c0, h0, b0, o0.step ((Below.refl _ v1).alloc (Nat.le_refl _) _)⟩)
            · first | (have h9 : _ = _ := hf; exact h9) | rfl
            · exact absurd rfl hj
            · exact absurd (hw.symm.trans (show waitsT _ 6 _ _ = true by kernel_rfl)) (by decide)
            · first | (have h9 : _ = _ := hf; exact h9) | rfl
            · first | (have h9 : _ = _ := hf; exact h9) | rfl
            · first | (have h9 : _ = _ := hf; exact h9) | rfl
            · first | (have h9 : _ = _ := hf; exact h9) | rfl
            · first | (obtain ⟨gs, X0, X1, X2, X3, X4, X5, X6, h0, h1, h2⟩ := hf; exact ⟨gs, X0, X1, X2, X3, X4, X5, X6, h0, h1, h2.step ((Below.refl _ v1).alloc (Nat.le_refl _) _)⟩)
            · exact absurd (hw.symm.trans (show waitsT _ 6 _ _ = true by kernel_rfl)) (by decide)
            · first | (have h9 : _ = _ := hf; exact h9) | rfl
            · exact trivial⟩
      · obtain rfl := Option.some.inj ho
        obtain ⟨g0_2, c0_2, f2, hb20, ho20⟩ := haf { on := 2, ground := .data } (by simp) rfl rfl
        have f2 : f 16 = _ := Option.some.inj f2
        obtain ⟨g0_4, c0_4, f4, hb40, ho40⟩ := haf { on := 4, ground := .data } (by simp) rfl rfl
        have f4 : f 18 = _ := Option.some.inj f4
        obtain ⟨ti, hti, htz, hts, htb⟩ := infoEvent_p
        have hrb := ho40.reads
        refine wpOp_plain rfl rfl ?_
        refine wp_append_own v1 (.tmp 16) (.tmp 18) 40 rfl g0_2 78 ti (.agg #[.int .i64 0, .int .i64 0]) 2 ti.bytes Try.underlying40 hti htz hts rfl rfl (by decide) (.slice (some ⟨g0_2, 0, none⟩) n c0_2) n (flEvent xs) f2 (OCEvent.row ho20) ⟨g0_4, 0, none⟩ 1 1 (flEvent ([⟨x0, x1⟩])) f4 (by rw [flEvent_len, hrb.1]) (OCEvent.news hrb) (flEvent_one _) (by unfold maxLen; omega) (by have h9 : (n + 1) * ti.bytes ≤ (n + 1) * 64 := Nat.mul_le_mul_left _ htb; omega) (Nat.le_of_lt ho20.lt) ?_
        intro v9 v2 hown9 hgr9 hif9
        obtain ⟨g0_N, c0_N, rfl, hg9, ho9⟩ := OCEvent.of (xs := (xs ++ ([⟨x0, x1⟩]))) (n := n + 1) (by have h := hown9; rw [← flEvent_app] at h; exact h) (by intro e9; exact absurd (hif9.1 e9).1 (by simp))
        have hgr9 : v1.grownBy v2 (some g0_2) := hgr9
        have hin2 := hin.wide (below_of_only hgr9 (Nat.le_trans hBg_1 hb20) hin.size)
        exact hK _ _ ⟨⟨⟨updf f 19 (.slice (some ⟨g0_N, 0, none⟩) (n + 1) c0_N), rfl⟩, hin2⟩, ⟨g0_N, c0_N, rfl, Nat.le_trans hb20 hg9, ho9⟩, fun j hj hw hu hf => by
            rcases j with _ | _ | _ | _ | _ | _ | _ | _ | _ | _ | _ | _ | _ | j
            · first | (have h9 : _ = _ := hf; exact h9) | rfl
            · first | (have h9 : _ = _ := hf; exact h9) | rfl
            · exact absurd (hu.symm.trans (show (_ || usesB _ _ _ _) = false by kernel_rfl)) (by decide)
            · first | (have h9 : _ = _ := hf; exact h9) | rfl
            · exact absurd (hu.symm.trans (show (_ || usesB _ _ _ _) = false by kernel_rfl)) (by decide)
            · exact absurd rfl hj
            · first | (have h9 : _ = _ := hf; exact h9) | rfl
            · first | (have h9 : _ = _ := hf; exact h9) | rfl
            · first | (have h9 : _ = _ := hf; exact h9) | rfl
            · first | (have h9 : _ = _ := hf; exact h9) | rfl
            · first | (obtain ⟨gs, X0, X1, X2, X3, X4, X5, X6, h0, h1, h2⟩ := hf; exact ⟨gs, X0, X1, X2, X3, X4, X5, X6, h0, h1, Blk.grown h2 hgr9 (fun h => absurd (Option.some.inj h).symm (ho20.ne h2 (by decide)))⟩)
            · exact absurd (hw.symm.trans (show waitsT _ 6 _ _ = true by kernel_rfl)) (by decide)
            · first | (have h9 : _ = _ := hf; exact h9) | rfl
            · exact trivial⟩
      · obtain rfl := Option.some.inj ho
        obtain ⟨g0_5, c0_5, f5, hb50, ho50⟩ := haf { on := 5, ground := .data } (by simp) rfl rfl
        have f5 : _ = _ := Option.some.inj f5
        refine wpOp_plain rfl rfl ?_
        unfold Oper.wp
        go_simp
        refine (HCT.out g0_5 c0_5 _ ho50).mono ?_
        rintro _ v2 ⟨rfl, hb2⟩
        exact hK _ _ ⟨⟨⟨updf f 20 (.tuple #[.agg #[.slice none 0 0, .int .i64 0, .int .i64 0, .int .i64 0, .int .i64 0, .int .i64 0, .int .i64 0], .bool false]), rfl⟩, hin.step hb2⟩, rfl, fun j hj hw hu hf => by
            rcases j with _ | _ | _ | _ | _ | _ | _ | _ | _ | _ | _ | _ | _ | j
            · first | (have h9 : _ = _ := hf; exact h9) | rfl
            · first | (have h9 : _ = _ := hf; exact h9) | rfl
            · exact absurd (hu.symm.trans (show (_ || usesB _ _ _ _) = false by kernel_rfl)) (by decide)
            · first | (have h9 : _ = _ := hf; exact h9) | rfl
            · exact absurd (hu.symm.trans (show (_ || usesB _ _ _ _) = false by kernel_rfl)) (by decide)
            · exact absurd (hu.symm.trans (show (_ || usesB _ _ _ _) = false by kernel_rfl)) (by decide)
            · exact absurd rfl hj
            · first | (have h9 : _ = _ := hf; exact h9) | rfl
            · first | (have h9 : _ = _ := hf; exact h9) | rfl
            · first | (have h9 : _ = _ := hf; exact h9) | rfl
            · first | (obtain ⟨gs, X0, X1, X2, X3, X4, X5, X6, h0, h1, h2⟩ := hf; exact ⟨gs, X0, X1, X2, X3, X4, X5, X6, h0, h1, h2.step hb2⟩)
            · exact absurd (hw.symm.trans (show waitsT _ 6 _ _ = true by kernel_rfl)) (by decide)
            · first | (have h9 : _ = _ := hf; exact h9) | rfl
            · exact trivial⟩
      · obtain rfl := Option.some.inj ho
        have f6 := haf { on := 6, ground := .data } (by simp) rfl rfl
        have f6 : _ = _ := Option.some.inj f6
        refine wpOp_plain rfl rfl ?_
        unfold Oper.wp
        go_simp
        exact hK _ _ ⟨⟨⟨updf f 13 (.tuple #[.agg #[.slice none 0 0, .int .i64 0, .int .i64 0, .int .i64 0, .int .i64 0, .int .i64 0, .int .i64 0], .bool false]), rfl⟩, hin⟩, rfl, fun j hj hw hu hf => by
            rcases j with _ | _ | _ | _ | _ | _ | _ | _ | _ | _ | _ | _ | _ | j
            · first | (have h9 : _ = _ := hf; exact h9) | rfl
            · first | (have h9 : _ = _ := hf; exact h9) | rfl
            · exact hf
            · first | (have h9 : _ = _ := hf; exact h9) | rfl
            · exact hf
            · exact hf
            · first | (have h9 : _ = _ := hf; exact h9) | rfl
            · exact absurd rfl hj
            · first | (have h9 : _ = _ := hf; exact h9) | rfl
            · first | (have h9 : _ = _ := hf; exact h9) | rfl
            · exact hf
            · exact hf
            · first | (have h9 : _ = _ := hf; exact h9) | rfl
            · exact trivial⟩
      · obtain rfl := Option.some.inj ho
        have f7 := haf { on := 7, ground := .data } (by simp) rfl rfl
        have f7 : _ = _ := Option.some.inj f7
        refine wpOp_plain rfl rfl ?_
        unfold Oper.wp
        go_simp
        exact hK _ _ ⟨⟨⟨updf f 21 (.agg #[.slice none 0 0, .int .i64 0, .int .i64 0, .int .i64 0, .int .i64 0, .int .i64 0, .int .i64 0]), rfl⟩, hin⟩, rfl, fun j hj hw hu hf => by
            rcases j with _ | _ | _ | _ | _ | _ | _ | _ | _ | _ | _ | _ | _ | j
            · first | (have h9 : _ = _ := hf; exact h9) | rfl
            · first | (have h9 : _ = _ := hf; exact h9) | rfl
            · exact hf
            · first | (have h9 : _ = _ := hf; exact h9) | rfl
            · exact hf
            · exact hf
            · first | (have h9 : _ = _ := hf; exact h9) | rfl
            · first | (have h9 : _ = _ := hf; exact h9) | rfl
            · exact absurd rfl hj
            · first | (have h9 : _ = _ := hf; exact h9) | rfl
            · exact hf
            · exact hf
            · first | (have h9 : _ = _ := hf; exact h9) | rfl
            · exact trivial⟩
      · obtain rfl := Option.some.inj ho
        have f7 := haf { on := 7, ground := .data } (by simp) rfl rfl
        have f7 : _ = _ := Option.some.inj f7
        refine wpOp_plain rfl rfl ?_
        unfold Oper.wp
        go_simp
        exact hK _ _ ⟨⟨⟨updf f 22 (.bool false), rfl⟩, hin⟩, rfl, fun j hj hw hu hf => by
            rcases j with _ | _ | _ | _ | _ | _ | _ | _ | _ | _ | _ | _ | _ | j
            · first | (have h9 : _ = _ := hf; exact h9) | rfl
            · first | (have h9 : _ = _ := hf; exact h9) | rfl
            · exact hf
            · first | (have h9 : _ = _ := hf; exact h9) | rfl
            · exact hf
            · exact hf
            · first | (have h9 : _ = _ := hf; exact h9) | rfl
            · first | (have h9 : _ = _ := hf; exact h9) | rfl
            · first | (have h9 : _ = _ := hf; exact h9) | rfl
            · exact absurd rfl hj
            · exact hf
            · exact hf
            · first | (have h9 : _ = _ := hf; exact h9) | rfl
            · exact trivial⟩
      · obtain rfl := Option.some.inj ho
        refine wpOp_plain rfl rfl ?_
        unfold Oper.wp
        go_simp
        exact hK _ _ ⟨⟨⟨updf f 6 (.pointer (some ⟨v1.heap.size, 0, none⟩)), rfl⟩, hin.alloc _⟩, ⟨v1.heap.size, _, _, _, _, _, _, _, Nat.le_trans hBl_1 hin.size, rfl, Blk.new v1 _ _⟩, fun j hj hw hu hf => by
            rcases j with _ | _ | _ | _ | _ | _ | _ | _ | _ | _ | _ | _ | _ | j
            · first | (have h9 : _ = _ := hf; exact h9) | rfl
            · first | (have h9 : _ = _ := hf; exact h9) | rfl
            · first | (obtain ⟨g0, c0, h0, b0, o0⟩ := hf; exact ⟨g0, c0, h0, b0, o0.step ((Below.refl _ v1).alloc (Nat.le_refl _) _)⟩)
            · first | (have h9 : _ = _ := hf; exact h9) | rfl
            · first | (obtain ⟨g0, c0, h0, b0, o0⟩ := hf; exact ⟨g0, c0, h0, b0, o0.step ((Below.refl _ v1).alloc (Nat.le_refl _) _)⟩)
            · first | (obtain ⟨g0, c0, h0, b0, o0⟩ := hf; exact ⟨g0, c0, h0, b0, o0.step ((Below.refl _ v1).alloc (Nat.le_refl _) _)⟩)
            · first | (have h9 : _ = _ := hf; exact h9) | rfl
            · first | (have h9 : _ = _ := hf; exact h9) | rfl
            · first | (have h9 : _ = _ := hf; exact h9) | rfl
            · first | (have h9 : _ = _ := hf; exact h9) | rfl
            · exact absurd rfl hj
            · exact absurd (hw.symm.trans (show waitsT _ 6 _ _ = true by kernel_rfl)) (by decide)
            · first | (have h9 : _ = _ := hf; exact h9) | rfl
            · exact trivial⟩
      · obtain rfl := Option.some.inj ho
        have f8 := haf { on := 8, ground := .data } (by simp) rfl rfl
        have f8 : _ = _ := Option.some.inj f8
        obtain ⟨gs, X0, X1, X2, X3, X4, X5, X6, hgB, hsl, hbk⟩ := haf { on := 10, ground := .data } (by simp) rfl rfl
        have hsl : _ = _ := Option.some.inj hsl
        have z0 := hbk.cell 0
        have y0 := hbk.frozen 0
        have z1 := hbk.cell 1
        have y1 := hbk.frozen 1
        have z2 := hbk.cell 2
        have y2 := hbk.frozen 2
        have z3 := hbk.cell 3
        have y3 := hbk.frozen 3
        have z4 := hbk.cell 4
        have y4 := hbk.frozen 4
        have z5 := hbk.cell 5
        have y5 := hbk.frozen 5
        have z6 := hbk.cell 6
        have y6 := hbk.frozen 6
        have hgw := Nat.le_trans hBg_1 hgB
        have hb2 : Below w_1.heap.size v1 (((((((v1.setCell ⟨gs, 0, none⟩ (.slice none 0 0)).setCell ⟨gs, 1, none⟩ (.int .i64 0)).setCell ⟨gs, 2, none⟩ (.int .i64 0)).setCell ⟨gs, 3, none⟩ (.int .i64 0)).setCell ⟨gs, 4, none⟩ (.int .i64 0)).setCell ⟨gs, 5, none⟩ (.int .i64 0)).setCell ⟨gs, 6, none⟩ (.int .i64 0)) := ((((((((Below.refl _ _).setCell hgw _).setCell hgw _).setCell hgw _).setCell hgw _).setCell hgw _).setCell hgw _).setCell hgw _)
        have hgr : v1.grownBy (((((((v1.setCell ⟨gs, 0, none⟩ (.slice none 0 0)).setCell ⟨gs, 1, none⟩ (.int .i64 0)).setCell ⟨gs, 2, none⟩ (.int .i64 0)).setCell ⟨gs, 3, none⟩ (.int .i64 0)).setCell ⟨gs, 4, none⟩ (.int .i64 0)).setCell ⟨gs, 5, none⟩ (.int .i64 0)).setCell ⟨gs, 6, none⟩ (.int .i64 0)) (some gs) := (only_setCell (only_setCell (only_setCell (only_setCell (only_setCell (only_setCell (only_setCell (only_refl _ _) (p := ⟨gs, 0, none⟩) (.inl rfl) _) (p := ⟨gs, 1, none⟩) (.inl rfl) _) (p := ⟨gs, 2, none⟩) (.inl rfl) _) (p := ⟨gs, 3, none⟩) (.inl rfl) _) (p := ⟨gs, 4, none⟩) (.inl rfl) _) (p := ⟨gs, 5, none⟩) (.inl rfl) _) (p := ⟨gs, 6, none⟩) (.inl rfl) _)
        have HBK : Blk (((((((v1.setCell ⟨gs, 0, none⟩ (.slice none 0 0)).setCell ⟨gs, 1, none⟩ (.int .i64 0)).setCell ⟨gs, 2, none⟩ (.int .i64 0)).setCell ⟨gs, 3, none⟩ (.int .i64 0)).setCell ⟨gs, 4, none⟩ (.int .i64 0)).setCell ⟨gs, 5, none⟩ (.int .i64 0)).setCell ⟨gs, 6, none⟩ (.int .i64 0)) gs 43 #[.slice none 0 0, .int .i64 0, .int .i64 0, .int .i64 0, .int .i64 0, .int .i64 0, .int .i64 0] := by
          have h := (((((((hbk.set_ 0 (.slice none 0 0)).set_ 1 (.int .i64 0)).set_ 2 (.int .i64 0)).set_ 3 (.int .i64 0)).set_ 4 (.int .i64 0)).set_ 5 (.int .i64 0)).set_ 6 (.int .i64 0))
          simpa using h
        refine wpOp_plain rfl rfl ?_
        unfold Oper.wp
        go_simp
        exact hK _ _ ⟨⟨⟨f, rfl⟩, hin.wide hb2⟩, ⟨gs, hgB, congrArg some hsl, HBK⟩, fun j hj hw hu hf => by
            rcases j with _ | _ | _ | _ | _ | _ | _ | _ | _ | _ | _ | _ | _ | j
            · first | (have h9 : _ = _ := hf; exact h9) | rfl
            · first | (have h9 : _ = _ := hf; exact h9) | rfl
            · exact absurd (hu.symm.trans (show (_ || usesB _ _ _ _) = false by kernel_rfl)) (by decide)
            · first | (have h9 : _ = _ := hf; exact h9) | rfl
            · exact absurd (hu.symm.trans (show (_ || usesB _ _ _ _) = false by kernel_rfl)) (by decide)
            · exact absurd (hu.symm.trans (show (_ || usesB _ _ _ _) = false by kernel_rfl)) (by decide)
            · first | (have h9 : _ = _ := hf; exact h9) | rfl
            · first | (have h9 : _ = _ := hf; exact h9) | rfl
            · first | (have h9 : _ = _ := hf; exact h9) | rfl
            · first | (have h9 : _ = _ := hf; exact h9) | rfl
            · exact absurd (hu.symm.trans (show (_ || usesB _ _ _ _) = false by kernel_rfl)) (by decide)
            · exact absurd rfl hj
            · first | (have h9 : _ = _ := hf; exact h9) | rfl
            · exact trivial⟩
      · obtain rfl := Option.some.inj ho
        have f9 := haf { on := 9, ground := .data } (by simp) rfl rfl
        have f9 : _ = _ := Option.some.inj f9
        refine wpOp_plain rfl rfl ?_
        unfold Oper.wp
        go_simp
        exact hK _ _ ⟨⟨⟨updf f 7 (.bool false), rfl⟩, hin⟩, rfl, fun j hj hw hu hf => by
            rcases j with _ | _ | _ | _ | _ | _ | _ | _ | _ | _ | _ | _ | _ | j
            · first | (have h9 : _ = _ := hf; exact h9) | rfl
            · first | (have h9 : _ = _ := hf; exact h9) | rfl
            · exact hf
            · first | (have h9 : _ = _ := hf; exact h9) | rfl
            · exact hf
            · exact hf
            · first | (have h9 : _ = _ := hf; exact h9) | rfl
            · first | (have h9 : _ = _ := hf; exact h9) | rfl
            · first | (have h9 : _ = _ := hf; exact h9) | rfl
            · first | (have h9 : _ = _ := hf; exact h9) | rfl
            · exact hf
            · exact hf
            · exact absurd rfl hj
            · exact trivial⟩
    intro a w_2 hI hF
    obtain ⟨⟨hIEntF, rfl⟩, hn_2⟩ := hI
    have hb_2 := hn_2.below
    obtain ⟨gs_2, hgs_2, hs_2, kk_2⟩ := hF 11 (by decide) (by decide)
    have hs_2 : hIEntF 6 = _ := Option.some.inj hs_2
    have he_2_7 : hIEntF 7 = _ := Option.some.inj (hF 12 (by decide) (by decide))
    clear hF
    rw [hs_2, he_2_7]
    clear hs_2 he_2_7
    obtain ⟨b_N, hbn_N⟩ : ∃ b, b = gs_2 := ⟨_, rfl⟩
    rw [← hbn_N] at hgs_2 kk_2 ⊢
    clear hbn_N 
    have hwb_N : w.heap.size ≤ b_N := Nat.le_trans (In.size (B := w.heap.size) (a := w) i_1) (Nat.le_trans hBg_1 hgs_2)
    have NB_A_N : Hid (b_A ≠ b_N) := Lib.hid (by have h1 := k_1_A.lt; have h2 := Nat.le_trans hBg_1 hgs_2; omega)
    have NB_E_N : Hid (b_E ≠ b_N) := Lib.hid (by have h1 := k_1_E.lt; have h2 := Nat.le_trans hBg_1 hgs_2; omega)
    have NB_R_N : Hid (b_R ≠ b_N) := Lib.hid (by have h1 := k_1_R.lt; have h2 := Nat.le_trans hBg_1 hgs_2; omega)
    have kb_2 : Blk w_2 b_N 43 #[.slice none 0 0, .int .i64 0, .int .i64 0, .int .i64 0, .int .i64 0, .int .i64 0, .int .i64 0] := kk_2
    clear kk_2
    have i_2 : In w.heap.size w w_2 := In.step (by (repeat (first | exact In.refl _ | assumption | apply In.alloc | apply In.drewN | apply In.drew | (refine In.step ?_ (by assumption))))) hb_2
    have k_2_A : Blk w_2 b_A 43 #[.slice (some ⟨ga, 0, none⟩) n ca, .int .i64 y0, .int .i64 y1, .int .i64 y2, .int .i64 y3, .int .i64 y4, .int .i64 y5] := Blk.step (by (with_reducible (repeat (first | assumption | exact Blk.new' (by simp) | apply Blk.drewN | apply Blk.drew | apply Blk.alloc | (refine Blk.far ?_ (by (try simp) <;> omega) _))))) hb_2
    obtain ⟨c_2_A_0, c_2_A_1, c_2_A_2, c_2_A_3, c_2_A_4, c_2_A_5, c_2_A_6⟩ := cells7 k_2_A
    have l_2_A := k_2_A.lt
    have k_2_E : Blk w_2 b_E 78 #[.int .i64 x0, .int .i64 x1] := Blk.step (by (with_reducible (repeat (first | assumption | exact Blk.new' (by simp) | apply Blk.drewN | apply Blk.drew | apply Blk.alloc | (refine Blk.far ?_ (by (try simp) <;> omega) _))))) hb_2
    obtain ⟨c_2_E_0, c_2_E_1⟩ := cells2 k_2_E
    have l_2_E := k_2_E.lt
    have k_2_R : Blk w_2 b_R 43 #[.slice none 0 0, .int .i64 0, .int .i64 0, .int .i64 0, .int .i64 0, .int .i64 0, .int .i64 0] := Blk.step (by (with_reducible (repeat (first | assumption | exact Blk.new' (by simp) | apply Blk.drewN | apply Blk.drew | apply Blk.alloc | (refine Blk.far ?_ (by (try simp) <;> omega) _))))) hb_2
    obtain ⟨c_2_R_0, c_2_R_1, c_2_R_2, c_2_R_3, c_2_R_4, c_2_R_5, c_2_R_6⟩ := cells7 k_2_R
    have l_2_R := k_2_R.lt
    have z_2_R := k_2_R.frozen
    have k_2_N : Blk w_2 b_N 43 #[.slice none 0 0, .int .i64 0, .int .i64 0, .int .i64 0, .int .i64 0, .int .i64 0, .int .i64 0] := kb_2
    obtain ⟨c_2_N_0, c_2_N_1, c_2_N_2, c_2_N_3, c_2_N_4, c_2_N_5, c_2_N_6⟩ := cells7 k_2_N
    have l_2_N := k_2_N.lt
    clear i_1 k_1_A c_1_A_0 c_1_A_1 c_1_A_2 c_1_A_3 c_1_A_4 c_1_A_5 c_1_A_6 l_1_A k_1_E c_1_E_0 c_1_E_1 l_1_E k_1_R c_1_R_0 c_1_R_1 c_1_R_2 c_1_R_3 c_1_R_4 c_1_R_5 c_1_R_6 l_1_R z_1_R hb_1
    clear kb_2 hn_2 hgs_2
    clear hBl_1 hBg_1
    have HV : Hid (enB n xs y0 y1 y2 y3 y4 y5 x0 x1 = false) := Lib.hid (by rw [enB, HCNT.out]; simp)
    go_wp2_with fail
    refine (i37Copy ga n ca xs y0 y1 y2 y3 y4 y5 _ (by omega) (HX.out.in_ (by (repeat (first | exact In.refl _ | assumption | apply In.alloc | apply In.drewN | apply In.drew | (refine In.step ?_ (by assumption))))))).mono ?_
    rintro _ w_3 ⟨gC_3, cC_3, rfl, hoC_3, hgC_3, hb_3⟩
    have GX_C : Hid (w.heap.size ≤ gC_3) := Lib.hid (by have h1 := hgC_3; (try simp at h1); have h2 := In.size i_2; omega)
    have o_3_C : OCEvent w_3 gC_3 (n) cC_3 xs := hoC_3
    clear hoC_3 hgC_3
    have i_3 : In w.heap.size w w_3 := In.step (by (repeat (first | exact In.refl _ | assumption | apply In.alloc | apply In.drewN | apply In.drew | (refine In.step ?_ (by assumption))))) hb_3
    have k_3_A : Blk w_3 b_A 43 #[.slice (some ⟨ga, 0, none⟩) n ca, .int .i64 y0, .int .i64 y1, .int .i64 y2, .int .i64 y3, .int .i64 y4, .int .i64 y5] := Blk.step (by (with_reducible (repeat (first | assumption | exact Blk.new' (by simp) | apply Blk.drewN | apply Blk.drew | apply Blk.alloc | (refine Blk.far ?_ (by (try simp) <;> omega) _))))) hb_3
    obtain ⟨c_3_A_0, c_3_A_1, c_3_A_2, c_3_A_3, c_3_A_4, c_3_A_5, c_3_A_6⟩ := cells7 k_3_A
    have l_3_A := k_3_A.lt
    have k_3_E : Blk w_3 b_E 78 #[.int .i64 x0, .int .i64 x1] := Blk.step (by (with_reducible (repeat (first | assumption | exact Blk.new' (by simp) | apply Blk.drewN | apply Blk.drew | apply Blk.alloc | (refine Blk.far ?_ (by (try simp) <;> omega) _))))) hb_3
    obtain ⟨c_3_E_0, c_3_E_1⟩ := cells2 k_3_E
    have l_3_E := k_3_E.lt
    have k_3_R : Blk w_3 b_R 43 #[.slice none 0 0, .int .i64 0, .int .i64 0, .int .i64 0, .int .i64 0, .int .i64 0, .int .i64 0] := Blk.step (by (with_reducible (repeat (first | assumption | exact Blk.new' (by simp) | apply Blk.drewN | apply Blk.drew | apply Blk.alloc | (refine Blk.far ?_ (by (try simp) <;> omega) _))))) hb_3
    obtain ⟨c_3_R_0, c_3_R_1, c_3_R_2, c_3_R_3, c_3_R_4, c_3_R_5, c_3_R_6⟩ := cells7 k_3_R
    have l_3_R := k_3_R.lt
    have z_3_R := k_3_R.frozen
    have k_3_N : Blk w_3 b_N 43 #[.slice none 0 0, .int .i64 0, .int .i64 0, .int .i64 0, .int .i64 0, .int .i64 0, .int .i64 0] := Blk.step (by (with_reducible (repeat (first | assumption | exact Blk.new' (by simp) | apply Blk.drewN | apply Blk.drew | apply Blk.alloc | (refine Blk.far ?_ (by (try simp) <;> omega) _))))) hb_3
    obtain ⟨c_3_N_0, c_3_N_1, c_3_N_2, c_3_N_3, c_3_N_4, c_3_N_5, c_3_N_6⟩ := cells7 k_3_N
    have l_3_N := k_3_N.lt
    clear i_2 k_2_A c_2_A_0 c_2_A_1 c_2_A_2 c_2_A_3 c_2_A_4 c_2_A_5 c_2_A_6 l_2_A k_2_E c_2_E_0 c_2_E_1 l_2_E k_2_R c_2_R_0 c_2_R_1 c_2_R_2 c_2_R_3 c_2_R_4 c_2_R_5 c_2_R_6 l_2_R z_2_R k_2_N c_2_N_0 c_2_N_1 c_2_N_2 c_2_N_3 c_2_N_4 c_2_N_5 c_2_N_6 l_2_N hb_2
    have hn1_R_A : b_A ≠ b_R := by first | exact NB_A_R.out | exact NB_R_A.out.symm
    have hn2_R_A : b_R ≠ b_A := hn1_R_A.symm
    have hn1_R_E : b_E ≠ b_R := by first | exact NB_E_R.out | exact NB_R_E.out.symm
    have hn2_R_E : b_R ≠ b_E := hn1_R_E.symm
    have hn1_R_N : b_N ≠ b_R := by first | exact NB_N_R.out | exact NB_R_N.out.symm
    have hn2_R_N : b_R ≠ b_N := hn1_R_N.symm
    have kk : Blk (((((((w_3.setCell ⟨b_R, 0, none⟩ (.slice (some ⟨gC_3, 0, none⟩) n cC_3)).setCell ⟨b_R, 1, none⟩ (.int .i64 y0)).setCell ⟨b_R, 2, none⟩ (.int .i64 y1)).setCell ⟨b_R, 3, none⟩ (.int .i64 y2)).setCell ⟨b_R, 4, none⟩ (.int .i64 y3)).setCell ⟨b_R, 5, none⟩ (.int .i64 y4)).setCell ⟨b_R, 6, none⟩ (.int .i64 y5)) b_R 43 #[.slice (some ⟨gC_3, 0, none⟩) n cC_3, .int .i64 y0, .int .i64 y1, .int .i64 y2, .int .i64 y3, .int .i64 y4, .int .i64 y5] := blks7 k_3_R
    have i9 : In w.heap.size w (((((((w_3.setCell ⟨b_R, 0, none⟩ (.slice (some ⟨gC_3, 0, none⟩) n cC_3)).setCell ⟨b_R, 1, none⟩ (.int .i64 y0)).setCell ⟨b_R, 2, none⟩ (.int .i64 y1)).setCell ⟨b_R, 3, none⟩ (.int .i64 y2)).setCell ⟨b_R, 4, none⟩ (.int .i64 y3)).setCell ⟨b_R, 5, none⟩ (.int .i64 y4)).setCell ⟨b_R, 6, none⟩ (.int .i64 y5)) := ins7 i_3 hwb_R
    have OC : Hid (OCEvent (((((((w_3.setCell ⟨b_R, 0, none⟩ (.slice (some ⟨gC_3, 0, none⟩) n cC_3)).setCell ⟨b_R, 1, none⟩ (.int .i64 y0)).setCell ⟨b_R, 2, none⟩ (.int .i64 y1)).setCell ⟨b_R, 3, none⟩ (.int .i64 y2)).setCell ⟨b_R, 4, none⟩ (.int .i64 y3)).setCell ⟨b_R, 5, none⟩ (.int .i64 y4)).setCell ⟨b_R, 6, none⟩ (.int .i64 y5)) gC_3 (n) cC_3 xs) := Lib.hid (OCEvent.far o_3_C k_3_R (by decide) only7)
    have HK0 : Hid ((_ : World).cell? ⟨b_R, 0, none⟩ = some (.slice (some ⟨gC_3, 0, none⟩) n cC_3)) := Lib.hid (kk.cell 0)
    have HK1 : Hid ((_ : World).cell? ⟨b_R, 1, none⟩ = some (.int .i64 y0)) := Lib.hid (kk.cell 1)
    have HK2 : Hid ((_ : World).cell? ⟨b_R, 2, none⟩ = some (.int .i64 y1)) := Lib.hid (kk.cell 2)
    have HK3 : Hid ((_ : World).cell? ⟨b_R, 3, none⟩ = some (.int .i64 y2)) := Lib.hid (kk.cell 3)
    have HK4 : Hid ((_ : World).cell? ⟨b_R, 4, none⟩ = some (.int .i64 y3)) := Lib.hid (kk.cell 4)
    have HK5 : Hid ((_ : World).cell? ⟨b_R, 5, none⟩ = some (.int .i64 y4)) := Lib.hid (kk.cell 5)
    have HK6 : Hid ((_ : World).cell? ⟨b_R, 6, none⟩ = some (.int .i64 y5)) := Lib.hid (kk.cell 6)
    clear kk
    clear o_3_C
    go_wp2
    have hk0 := HK0.out
    have hk1 := HK1.out
    have hk2 := HK2.out
    have hk3 := HK3.out
    have hk4 := HK4.out
    have hk5 := HK5.out
    have hk6 := HK6.out
    exact bodyPost_ret (v := .tuple #[.agg #[.slice (some ⟨gC_3, 0, none⟩) n cC_3, .int .i64 y0, .int .i64 y1, .int .i64 y2, .int .i64 y3, .int .i64 y4, .int .i64 y5], .bool false]) (by simp [results, Try.results42, go_sem, hk0, hk1, hk2, hk3, hk4, hk5, hk6]) rfl (rowBkV_of (s := ⟨y0, y1, y2, y3, y4, y5⟩) (by simp [enL, HV.out]) (by simp [enS, HV.out]) (by rw [HV.out]) OC.out GX_C.out i9.below)
  obtain ⟨s, hs⟩ : ∃ x, stTo (xs ++ [⟨x0, x1⟩]) (n + 1) = x := ⟨_, rfl⟩
  obtain ⟨s0, s1, s2, s3, s4, s5⟩ := s
  have HCT : Hid (∀ (g c : Nat) (W : World), OCEvent W g (n + 1) c (xs ++ [⟨x0, x1⟩]) → Calls Try.prog 72 #[.slice (some ⟨g, 0, none⟩) (n + 1) c] W (fun e w' => ∃ g c, e = .returned (.tuple #[.agg (bkC (some ⟨g, 0, none⟩) (n + 1) c ⟨s0, s1, s2, s3, s4, s5⟩), .bool true]) ∧ OCEvent w' g (n + 1) c (xs ++ [⟨x0, x1⟩]) ∧ W.heap.size ≤ g ∧ Below W.heap.size W w')) := Lib.hid (fun g c W h => (ibookOf g (n + 1) c _ W (by omega) h.reads).mono (by
    rintro e w2 (⟨h1, _⟩ | ⟨_, g2, c2, h1, h2⟩)
    · rw [hcnt] at h1; cases h1
    · rw [hs] at h1; exact ⟨g2, c2, h1, h2⟩))
  have HB2 : Hid (bkB (n + 1) (xs ++ [⟨x0, x1⟩]) s0 s1 s2 s3 s4 s5 = decide (n + 1 ≤ 40)) := Lib.hid (by rw [bkB, hcnt, hs]; simp)
  have HE : Hid (enB n xs y0 y1 y2 y3 y4 y5 x0 x1 = decide (n + 1 ≤ 40)) := Lib.hid (by rw [enB, H1.out, hcnt]; simp)
  have HS := Lib.hid hs
  clear hs
  have HCNT := Lib.hid hcnt
  clear hcnt
  go_wp2_with fail
  obtain ⟨B_1, hB_1⟩ : ∃ B, B = w_1.heap.size := ⟨_, rfl⟩
  have hBl_1 : B_1 ≤ w_1.heap.size := by omega
  have hBg_1 : w_1.heap.size ≤ B_1 := by omega
  clear hB_1
  refine wp_region_facts2 (JIIEntT w_1 ga n ca b_R b_A b_E y0 y1 y2 y3 y4 y5 x0 x1 s0 s1 s2 s3 s4 s5 xs) (JFIEntT B_1 ga n ca b_R b_A b_E y0 y1 y2 y3 y4 y5 x0 x1 s0 s1 s2 s3 s4 s5 xs) (fun j => j == 11 || j == 12) (fun k j => (k == 1 && (j == 0)) || (k == 2 && (j == 1)) || (k == 4 && (j == 3)) || (k == 5 && (j == 2 || j == 4)) || (k == 6 && (j == 5)) || (k == 7 && (j == 6)) || (k == 8 && (j == 7)) || (k == 9 && (j == 7)) || (k == 11 && (j == 8 || j == 10)) || (k == 12 && (j == 9))) (by kernel_rfl) (by kernel_rfl) ⟨⟨fun j => undef, rfl⟩, (In.refl _).drew⟩ ?_ ?_
  · intro a v1 i o ho hI haf
    obtain ⟨⟨f, rfl⟩, hin⟩ := hI
    have kv_A : Blk v1 b_A 43 #[.slice (some ⟨ga, 0, none⟩) n ca, .int .i64 y0, .int .i64 y1, .int .i64 y2, .int .i64 y3, .int .i64 y4, .int .i64 y5] := Blk.step k_1_A hin.below
    have cv_A_0 := kv_A.cell 0
    have cv_A_1 := kv_A.cell 1
    have cv_A_2 := kv_A.cell 2
    have cv_A_3 := kv_A.cell 3
    have cv_A_4 := kv_A.cell 4
    have cv_A_5 := kv_A.cell 5
    have cv_A_6 := kv_A.cell 6
    have kv_E : Blk v1 b_E 78 #[.int .i64 x0, .int .i64 x1] := Blk.step k_1_E hin.below
    have cv_E_0 := kv_E.cell 0
    have cv_E_1 := kv_E.cell 1
    have kv_R : Blk v1 b_R 43 #[.slice none 0 0, .int .i64 0, .int .i64 0, .int .i64 0, .int .i64 0, .int .i64 0, .int .i64 0] := Blk.step k_1_R hin.below
    have cv_R_0 := kv_R.cell 0
    have cv_R_1 := kv_R.cell 1
    have cv_R_2 := kv_R.cell 2
    have cv_R_3 := kv_R.cell 3
    have cv_R_4 := kv_R.cell 4
    have cv_R_5 := kv_R.cell 5
    have cv_R_6 := kv_R.cell 6
    have hi : i < 13 := by
      rcases Nat.lt_or_ge i 13 with h | h
      · exact h
      · simp [h] at ho
    suffices H : ∀ K : Act → World → Prop, (∀ a' w', ((JIIEntT w_1 ga n ca b_R b_A b_E y0 y1 y2 y3 y4 y5 x0 x1 s0 s1 s2 s3 s4 s5 xs) a' w' ∧ (JFIEntT B_1 ga n ca b_R b_A b_E y0 y1 y2 y3 y4 y5 x0 x1 s0 s1 s2 s3 s4 s5 xs) i a' w' ∧ ∀ j, j ≠ i → waitsT _ 6 j i = false → ((fun j => j == 11 || j == 12) j || usesB _ (fun k j => (k == 1 && (j == 0)) || (k == 2 && (j == 1)) || (k == 4 && (j == 3)) || (k == 5 && (j == 2 || j == 4)) || (k == 6 && (j == 5)) || (k == 7 && (j == 6)) || (k == 8 && (j == 7)) || (k == 9 && (j == 7)) || (k == 11 && (j == 8 || j == 10)) || (k == 12 && (j == 9))) i j) = true → (JFIEntT B_1 ga n ca b_R b_A b_E y0 y1 y2 y3 y4 y5 x0 x1 s0 s1 s2 s3 s4 s5 xs) j ⟨#[Value.agg #[Value.slice (some { block := ga, off := 0 }) n ca, Value.int IntKind.i64 y0, Value.int IntKind.i64 y1, Value.int IntKind.i64 y2, Value.int IntKind.i64 y3, Value.int IntKind.i64 y4, Value.int IntKind.i64 y5], Value.agg #[Value.int IntKind.i64 x0, Value.int IntKind.i64 x1], Value.pointer (some { block := b_A, off := 0 }), Value.pointer (some { block := b_E, off := 0 }), Value.pointer (some { block := b_R, off := 0 }), Value.bool false, f 6, f 7, Value.agg #[Value.slice (some { block := ga, off := 0 }) n ca, Value.int IntKind.i64 y0, Value.int IntKind.i64 y1, Value.int IntKind.i64 y2, Value.int IntKind.i64 y3, Value.int IntKind.i64 y4, Value.int IntKind.i64 y5], Value.bool true, Value.bool false, undef, undef, f 13, f 14, f 15, f 16, f 17, f 18, f 19, f 20, f 21, f 22, undef, undef, undef, undef, undef, undef, undef, undef, undef, undef], []⟩ v1 → (JFIEntT B_1 ga n ca b_R b_A b_E y0 y1 y2 y3 y4 y5 x0 x1 s0 s1 s2 s3 s4 s5 xs) j a' w') → K a' w') → wpOp _ _ _ i K ⟨#[Value.agg #[Value.slice (some { block := ga, off := 0 }) n ca, Value.int IntKind.i64 y0, Value.int IntKind.i64 y1, Value.int IntKind.i64 y2, Value.int IntKind.i64 y3, Value.int IntKind.i64 y4, Value.int IntKind.i64 y5], Value.agg #[Value.int IntKind.i64 x0, Value.int IntKind.i64 x1], Value.pointer (some { block := b_A, off := 0 }), Value.pointer (some { block := b_E, off := 0 }), Value.pointer (some { block := b_R, off := 0 }), Value.bool false, f 6, f 7, Value.agg #[Value.slice (some { block := ga, off := 0 }) n ca, Value.int IntKind.i64 y0, Value.int IntKind.i64 y1, Value.int IntKind.i64 y2, Value.int IntKind.i64 y3, Value.int IntKind.i64 y4, Value.int IntKind.i64 y5], Value.bool true, Value.bool false, undef, undef, f 13, f 14, f 15, f 16, f 17, f 18, f 19, f 20, f 21, f 22, undef, undef, undef, undef, undef, undef, undef, undef, undef, undef], []⟩ v1 from H _ fun _ _ h => h
    intro K hK
    rcases (by omega : i = 0 ∨ i = 1 ∨ i = 2 ∨ i = 3 ∨ i = 4 ∨ i = 5 ∨ i = 6 ∨ i = 7 ∨ i = 8 ∨ i = 9 ∨ i = 10 ∨ i = 11 ∨ i = 12) with rfl | rfl | rfl | rfl | rfl | rfl | rfl | rfl | rfl | rfl | rfl | rfl | rfl
    · obtain rfl := Option.some.inj ho
      refine wpOp_plain rfl rfl ?_
      unfold Oper.wp
      go_simp
      exact hK _ _ ⟨⟨⟨updf f 14 (.pointer (some ⟨b_A, 0, none⟩)), rfl⟩, hin⟩, rfl, fun j hj hw hu hf => by
          rcases j with _ | _ | _ | _ | _ | _ | _ | _ | _ | _ | _ | _ | _ | j
          · exact absurd rfl hj
          · first | (have h9 : _ = _ := hf; exact h9) | rfl
          · exact hf
          · first | (have h9 : _ = _ := hf; exact h9) | rfl
          · exact hf
          · exact hf
          · exact hf
          · exact hf
          · exact hf
          · first | (have h9 : _ = _ := hf; exact h9) | rfl
          · exact hf
          · exact hf
          · first | (have h9 : _ = _ := hf; exact h9) | rfl
          · exact trivial⟩
    · obtain rfl := Option.some.inj ho
      have f0 := haf { on := 0, ground := .data } (by simp) rfl rfl
      have f0 : _ = _ := Option.some.inj f0
      refine wpOp_plain rfl rfl ?_
      unfold Oper.wp
      go_simp
      exact hK _ _ ⟨⟨⟨updf f 15 (.slice (some ⟨ga, 0, none⟩) n ca), rfl⟩, hin⟩, rfl, fun j hj hw hu hf => by
          rcases j with _ | _ | _ | _ | _ | _ | _ | _ | _ | _ | _ | _ | _ | j
          · first | (have h9 : _ = _ := hf; exact h9) | rfl
          · exact absurd rfl hj
          · exact hf
          · first | (have h9 : _ = _ := hf; exact h9) | rfl
          · exact hf
          · exact hf
          · exact hf
          · exact hf
          · exact hf
          · first | (have h9 : _ = _ := hf; exact h9) | rfl
          · exact hf
          · exact hf
          · first | (have h9 : _ = _ := hf; exact h9) | rfl
          · exact trivial⟩
    · obtain rfl := Option.some.inj ho
      have f1 := haf { on := 1, ground := .data } (by simp) rfl rfl
      have f1 : _ = _ := Option.some.inj f1
      refine wpOp_plain rfl rfl ?_
      unfold Oper.wp
      go_simp
      refine (iCloneE ga n ca xs _ (by omega) (HX.out.in_ (i_1.trans hin))).mono ?_
      rintro _ v2 ⟨g0_N, c0_N, rfl, ho0, hg0, hb2⟩
      exact hK _ _ ⟨⟨⟨updf f 16 (.slice (some ⟨g0_N, 0, none⟩) n c0_N), rfl⟩, hin.step hb2⟩, ⟨g0_N, c0_N, rfl, Nat.le_trans (Nat.le_trans hBl_1 hin.size) hg0, ho0⟩, fun j hj hw hu hf => by
          rcases j with _ | _ | _ | _ | _ | _ | _ | _ | _ | _ | _ | _ | _ | j
          · first | (have h9 : _ = _ := hf; exact h9) | rfl
          · first | (have h9 : _ = _ := hf; exact h9) | rfl
          · exact absurd rfl hj
          · first | (have h9 : _ = _ := hf; exact h9) | rfl
          · first | (obtain ⟨g0, c0, h0, b0, o0⟩ := hf; exact ⟨g0, c0, h0, b0, o0.step hb2⟩)
          · exact absurd (hw.symm.trans (show waitsT _ 6 _ _ = true by kernel_rfl)) (by decide)
          · exact absurd (hw.symm.trans (show waitsT _ 6 _ _ = true by kernel_rfl)) (by decide)
          · exact absurd (hw.symm.trans (show waitsT _ 6 _ _ = true by kernel_rfl)) (by decide)
          · exact absurd (hw.symm.trans (show waitsT _ 6 _ _ = true by kernel_rfl)) (by decide)
          · first | (have h9 : _ = _ := hf; exact h9) | rfl
          · first | (obtain ⟨gs, X0, X1, X2, X3, X4, X5, X6, h0, h1, h2⟩ := hf; exact ⟨gs, X0, X1, X2, X3, X4, X5, X6, h0, h1, h2.step hb2⟩)
          · exact absurd (hw.symm.trans (show waitsT _ 6 _ _ = true by kernel_rfl)) (by decide)
          · first | (have h9 : _ = _ := hf; exact h9) | rfl
          · exact trivial⟩
    · obtain rfl := Option.some.inj ho
      refine wpOp_plain rfl rfl ?_
      unfold Oper.wp
      go_simp
      exact hK _ _ ⟨⟨⟨updf f 17 (.agg #[.int .i64 x0, .int .i64 x1]), rfl⟩, hin⟩, rfl, fun j hj hw hu hf => by
          rcases j with _ | _ | _ | _ | _ | _ | _ | _ | _ | _ | _ | _ | _ | j
          · first | (have h9 : _ = _ := hf; exact h9) | rfl
          · first | (have h9 : _ = _ := hf; exact h9) | rfl
          · exact hf
          · exact absurd rfl hj
          · exact hf
          · exact hf
          · exact hf
          · exact hf
          · exact hf
          · first | (have h9 : _ = _ := hf; exact h9) | rfl
          · exact hf
          · exact hf
          · first | (have h9 : _ = _ := hf; exact h9) | rfl
          · exact trivial⟩
    · obtain rfl := Option.some.inj ho
      have f3 := haf { on := 3, ground := .data } (by simp) rfl rfl
      have f3 : f 17 = _ := Option.some.inj f3
      rw [f3]
      refine wpOp_plain rfl rfl ?_
      unfold Oper.wp
      go_simp
      exact hK _ _ ⟨⟨⟨updf (updf (f) 17 (.agg #[.int .i64 x0, .int .i64 x1])) 18 (.slice (some ⟨v1.heap.size, 0, none⟩) 1 1), rfl⟩, hin.alloc _⟩, ⟨v1.heap.size, 0, rfl, Nat.le_trans hBl_1 hin.size, OCEvent.lit1 v1 ⟨x0, x1⟩⟩, fun j hj hw hu hf => by
          rcases j with _ | _ | _ | _ | _ | _ | _ | _ | _ | _ | _ | _ | _ | j
          · first | (have h9 : _ = _ := hf; exact h9) | rfl
          · first | (have h9 : _ = _ := hf; exact h9) | rfl
          · first | (obtain ⟨g0, c0, h0, b0, o0⟩ := hf; exact ⟨g0, c0, h0, b0, o0.step ((Below.refl _ v1).alloc (Nat.le_refl _) _)⟩)
          · first | (have h9 : _ = _ := hf; exact h9) | rfl
          · exact absurd rfl hj
          · exact absurd (hw.symm.trans (show waitsT _ 6 _ _ = true by kernel_rfl)) (by decide)
          · exact absurd (hw.symm.trans (show waitsT _ 6 _ _ = true by kernel_rfl)) (by decide)
          · exact absurd (hw.symm.trans (show waitsT _ 6 _ _ = true by kernel_rfl)) (by decide)
          · exact absurd (hw.symm.trans (show waitsT _ 6 _ _ = true by kernel_rfl)) (by decide)
          · first | (have h9 : _ = _ := hf; exact h9) | rfl
          · first | (obtain ⟨gs, X0, X1, X2, X3, X4, X5, X6, h0, h1, h2⟩ := hf; exact ⟨gs, X0, X1, X2, X3, X4, X5, X6, h0, h1, h2.step ((Below.refl _ v1).alloc (Nat.le_refl _) _)⟩)
          · exact absurd (hw.symm.trans (show waitsT _ 6 _ _ = true by kernel_rfl)) (by decide)
          · first | (have h9 : _ = _ := hf; exact h9) | rfl
          · exact trivial⟩
    · obtain rfl := Option.some.inj ho
      obtain ⟨g0_2, c0_2, f2, hb20, ho20⟩ := haf { on := 2, ground := .data } (by simp) rfl rfl
      have f2 : f 16 = _ := Option.some.inj f2
      obtain ⟨g0_4, c0_4, f4, hb40, ho40⟩ := haf { on := 4, ground := .data } (by simp) rfl rfl
      have f4 : f 18 = _ := Option.some.inj f4
      obtain ⟨ti, hti, htz, hts, htb⟩ := infoEvent_p
      have hrb := ho40.reads
      refine wpOp_plain rfl rfl ?_
      refine wp_append_own v1 (.tmp 16) (.tmp 18) 40 rfl g0_2 78 ti (.agg #[.int .i64 0, .int .i64 0]) 2 ti.bytes Try.underlying40 hti htz hts rfl rfl (by decide) (.slice (some ⟨g0_2, 0, none⟩) n c0_2) n (flEvent xs) f2 (OCEvent.row ho20) ⟨g0_4, 0, none⟩ 1 1 (flEvent ([⟨x0, x1⟩])) f4 (by rw [flEvent_len, hrb.1]) (OCEvent.news hrb) (flEvent_one _) (by unfold maxLen; omega) (by have h9 : (n + 1) * ti.bytes ≤ (n + 1) * 64 := Nat.mul_le_mul_left _ htb; omega) (Nat.le_of_lt ho20.lt) ?_
      intro v9 v2 hown9 hgr9 hif9
      obtain ⟨g0_N, c0_N, rfl, hg9, ho9⟩ := OCEvent.of (xs := (xs ++ ([⟨x0, x1⟩]))) (n := n + 1) (by have h := hown9; rw [← flEvent_app] at h; exact h) (by intro e9; exact absurd (hif9.1 e9).1 (by simp))
      have hgr9 : v1.grownBy v2 (some g0_2) := hgr9
      have hin2 := hin.wide (below_of_only hgr9 (Nat.le_trans hBg_1 hb20) hin.size)
      exact hK _ _ ⟨⟨⟨updf f 19 (.slice (some ⟨g0_N, 0, none⟩) (n + 1) c0_N), rfl⟩, hin2⟩, ⟨g0_N, c0_N, rfl, Nat.le_trans hb20 hg9, ho9⟩, fun j hj hw hu hf => by
          rcases j with _ | _ | _ | _ | _ | _ | _ | _ | _ | _ | _ | _ | _ | j
          · first | (have h9 : _ = _ := hf; exact h9) | rfl
          · first | (have h9 : _ = _ := hf; exact h9) | rfl
          · exact absurd (hu.symm.trans (show (_ || usesB _ _ _ _) = false by kernel_rfl)) (by decide)
          · first | (have h9 : _ = _ := hf; exact h9) | rfl
          · exact absurd (hu.symm.trans (show (_ || usesB _ _ _ _) = false by kernel_rfl)) (by decide)
          · exact absurd rfl hj
          · exact absurd (hw.symm.trans (show waitsT _ 6 _ _ = true by kernel_rfl)) (by decide)
          · exact absurd (hw.symm.trans (show waitsT _ 6 _ _ = true by kernel_rfl)) (by decide)
          · exact absurd (hw.symm.trans (show waitsT _ 6 _ _ = true by kernel_rfl)) (by decide)
          · first | (have h9 : _ = _ := hf; exact h9) | rfl
          · first | (obtain ⟨gs, X0, X1, X2, X3, X4, X5, X6, h0, h1, h2⟩ := hf; exact ⟨gs, X0, X1, X2, X3, X4, X5, X6, h0, h1, Blk.grown h2 hgr9 (fun h => absurd (Option.some.inj h).symm (ho20.ne h2 (by decide)))⟩)
          · exact absurd (hw.symm.trans (show waitsT _ 6 _ _ = true by kernel_rfl)) (by decide)
          · first | (have h9 : _ = _ := hf; exact h9) | rfl
          · exact trivial⟩
    · obtain rfl := Option.some.inj ho
      obtain ⟨g0_5, c0_5, f5, hb50, ho50⟩ := haf { on := 5, ground := .data } (by simp) rfl rfl
      have f5 : _ = _ := Option.some.inj f5
      refine wpOp_plain rfl rfl ?_
      unfold Oper.wp
      go_simp
      refine (HCT.out g0_5 c0_5 _ ho50).mono ?_
      rintro _ v2 ⟨g0_N, c0_N, rfl, ho0, hg0, hb2⟩
      exact hK _ _ ⟨⟨⟨updf f 20 (.tuple #[.agg #[.slice (some ⟨g0_N, 0, none⟩) (n + 1) c0_N, .int .i64 s0, .int .i64 s1, .int .i64 s2, .int .i64 s3, .int .i64 s4, .int .i64 s5], .bool true]), rfl⟩, hin.step hb2⟩, ⟨g0_N, c0_N, rfl, Nat.le_trans (Nat.le_trans hBl_1 hin.size) hg0, ho0⟩, fun j hj hw hu hf => by
          rcases j with _ | _ | _ | _ | _ | _ | _ | _ | _ | _ | _ | _ | _ | j
          · first | (have h9 : _ = _ := hf; exact h9) | rfl
          · first | (have h9 : _ = _ := hf; exact h9) | rfl
          · exact absurd (hu.symm.trans (show (_ || usesB _ _ _ _) = false by kernel_rfl)) (by decide)
          · first | (have h9 : _ = _ := hf; exact h9) | rfl
          · exact absurd (hu.symm.trans (show (_ || usesB _ _ _ _) = false by kernel_rfl)) (by decide)
          · exact absurd (hu.symm.trans (show (_ || usesB _ _ _ _) = false by kernel_rfl)) (by decide)
          · exact absurd rfl hj
          · exact absurd (hw.symm.trans (show waitsT _ 6 _ _ = true by kernel_rfl)) (by decide)
          · exact absurd (hw.symm.trans (show waitsT _ 6 _ _ = true by kernel_rfl)) (by decide)
          · first | (have h9 : _ = _ := hf; exact h9) | rfl
          · first | (obtain ⟨gs, X0, X1, X2, X3, X4, X5, X6, h0, h1, h2⟩ := hf; exact ⟨gs, X0, X1, X2, X3, X4, X5, X6, h0, h1, h2.step hb2⟩)
          · exact absurd (hw.symm.trans (show waitsT _ 6 _ _ = true by kernel_rfl)) (by decide)
          · first | (have h9 : _ = _ := hf; exact h9) | rfl
          · exact trivial⟩
    · obtain rfl := Option.some.inj ho
      obtain ⟨g0_6, c0_6, f6, hb60, ho60⟩ := haf { on := 6, ground := .data } (by simp) rfl rfl
      have f6 : _ = _ := Option.some.inj f6
      refine wpOp_plain rfl rfl ?_
      unfold Oper.wp
      go_simp
      exact hK _ _ ⟨⟨⟨updf f 13 (.tuple #[.agg #[.slice (some ⟨g0_6, 0, none⟩) (n + 1) c0_6, .int .i64 s0, .int .i64 s1, .int .i64 s2, .int .i64 s3, .int .i64 s4, .int .i64 s5], .bool true]), rfl⟩, hin⟩, ⟨g0_6, c0_6, rfl, hb60, ho60⟩, fun j hj hw hu hf => by
          rcases j with _ | _ | _ | _ | _ | _ | _ | _ | _ | _ | _ | _ | _ | j
          · first | (have h9 : _ = _ := hf; exact h9) | rfl
          · first | (have h9 : _ = _ := hf; exact h9) | rfl
          · exact hf
          · first | (have h9 : _ = _ := hf; exact h9) | rfl
          · exact hf
          · exact hf
          · exact hf
          · exact absurd rfl hj
          · exact hf
          · first | (have h9 : _ = _ := hf; exact h9) | rfl
          · exact hf
          · exact hf
          · first | (have h9 : _ = _ := hf; exact h9) | rfl
          · exact trivial⟩
    · obtain rfl := Option.some.inj ho
      obtain ⟨g0_7, c0_7, f7, hb70, ho70⟩ := haf { on := 7, ground := .data } (by simp) rfl rfl
      have f7 : _ = _ := Option.some.inj f7
      refine wpOp_plain rfl rfl ?_
      unfold Oper.wp
      go_simp
      exact hK _ _ ⟨⟨⟨updf f 21 (.agg #[.slice (some ⟨g0_7, 0, none⟩) (n + 1) c0_7, .int .i64 s0, .int .i64 s1, .int .i64 s2, .int .i64 s3, .int .i64 s4, .int .i64 s5]), rfl⟩, hin⟩, ⟨g0_7, c0_7, rfl, hb70, ho70⟩, fun j hj hw hu hf => by
          rcases j with _ | _ | _ | _ | _ | _ | _ | _ | _ | _ | _ | _ | _ | j
          · first | (have h9 : _ = _ := hf; exact h9) | rfl
          · first | (have h9 : _ = _ := hf; exact h9) | rfl
          · exact hf
          · first | (have h9 : _ = _ := hf; exact h9) | rfl
          · exact hf
          · exact hf
          · exact hf
          · exact hf
          · exact absurd rfl hj
          · first | (have h9 : _ = _ := hf; exact h9) | rfl
          · exact hf
          · exact hf
          · first | (have h9 : _ = _ := hf; exact h9) | rfl
          · exact trivial⟩
    · obtain rfl := Option.some.inj ho
      obtain ⟨g0_7, c0_7, f7, hb70, ho70⟩ := haf { on := 7, ground := .data } (by simp) rfl rfl
      have f7 : _ = _ := Option.some.inj f7
      refine wpOp_plain rfl rfl ?_
      unfold Oper.wp
      go_simp
      exact hK _ _ ⟨⟨⟨updf f 22 (.bool true), rfl⟩, hin⟩, rfl, fun j hj hw hu hf => by
          rcases j with _ | _ | _ | _ | _ | _ | _ | _ | _ | _ | _ | _ | _ | j
          · first | (have h9 : _ = _ := hf; exact h9) | rfl
          · first | (have h9 : _ = _ := hf; exact h9) | rfl
          · exact hf
          · first | (have h9 : _ = _ := hf; exact h9) | rfl
          · exact hf
          · exact hf
          · exact hf
          · exact hf
          · exact hf
          · exact absurd rfl hj
          · exact hf
          · exact hf
          · first | (have h9 : _ = _ := hf; exact h9) | rfl
          · exact trivial⟩
    · obtain rfl := Option.some.inj ho
      refine wpOp_plain rfl rfl ?_
      unfold Oper.wp
      go_simp
      exact hK _ _ ⟨⟨⟨updf f 6 (.pointer (some ⟨v1.heap.size, 0, none⟩)), rfl⟩, hin.alloc _⟩, ⟨v1.heap.size, _, _, _, _, _, _, _, Nat.le_trans hBl_1 hin.size, rfl, Blk.new v1 _ _⟩, fun j hj hw hu hf => by
          rcases j with _ | _ | _ | _ | _ | _ | _ | _ | _ | _ | _ | _ | _ | j
          · first | (have h9 : _ = _ := hf; exact h9) | rfl
          · first | (have h9 : _ = _ := hf; exact h9) | rfl
          · first | (obtain ⟨g0, c0, h0, b0, o0⟩ := hf; exact ⟨g0, c0, h0, b0, o0.step ((Below.refl _ v1).alloc (Nat.le_refl _) _)⟩)
          · first | (have h9 : _ = _ := hf; exact h9) | rfl
          · first | (obtain ⟨g0, c0, h0, b0, o0⟩ := hf; exact ⟨g0, c0, h0, b0, o0.step ((Below.refl _ v1).alloc (Nat.le_refl _) _)⟩)
          · first | (obtain ⟨g0, c0, h0, b0, o0⟩ := hf; exact ⟨g0, c0, h0, b0, o0.step ((Below.refl _ v1).alloc (Nat.le_refl _) _)⟩)
          · first | (obtain ⟨g0, c0, h0, b0, o0⟩ := hf; exact ⟨g0, c0, h0, b0, o0.step ((Below.refl _ v1).alloc (Nat.le_refl _) _)⟩)
          · first | (obtain ⟨g0, c0, h0, b0, o0⟩ := hf; exact ⟨g0, c0, h0, b0, o0.step ((Below.refl _ v1).alloc (Nat.le_refl _) _)⟩)
          · first | (obtain ⟨g0, c0, h0, b0, o0⟩ := hf; exact ⟨g0, c0, h0, b0, o0.step ((Below.refl _ v1).alloc (Nat.le_refl _) _)⟩)
          · first | (have h9 : _ = _ := hf; exact h9) | rfl
          · exact absurd rfl hj
          · exact absurd (hw.symm.trans (show waitsT _ 6 _ _ = true by kernel_rfl)) (by decide)
          · first | (have h9 : _ = _ := hf; exact h9) | rfl
          · exact trivial⟩
    · obtain rfl := Option.some.inj ho
      obtain ⟨g0_8, c0_8, f8, hb80, ho80⟩ := haf { on := 8, ground := .data } (by simp) rfl rfl
      have f8 : _ = _ := Option.some.inj f8
      obtain ⟨gs, X0, X1, X2, X3, X4, X5, X6, hgB, hsl, hbk⟩ := haf { on := 10, ground := .data } (by simp) rfl rfl
      have hsl : _ = _ := Option.some.inj hsl
      have z0 := hbk.cell 0
      have y0 := hbk.frozen 0
      have z1 := hbk.cell 1
      have y1 := hbk.frozen 1
      have z2 := hbk.cell 2
      have y2 := hbk.frozen 2
      have z3 := hbk.cell 3
      have y3 := hbk.frozen 3
      have z4 := hbk.cell 4
      have y4 := hbk.frozen 4
      have z5 := hbk.cell 5
      have y5 := hbk.frozen 5
      have z6 := hbk.cell 6
      have y6 := hbk.frozen 6
      have hgw := Nat.le_trans hBg_1 hgB
      have hb2 : Below w_1.heap.size v1 (((((((v1.setCell ⟨gs, 0, none⟩ (.slice (some ⟨g0_8, 0, none⟩) (n + 1) c0_8)).setCell ⟨gs, 1, none⟩ (.int .i64 s0)).setCell ⟨gs, 2, none⟩ (.int .i64 s1)).setCell ⟨gs, 3, none⟩ (.int .i64 s2)).setCell ⟨gs, 4, none⟩ (.int .i64 s3)).setCell ⟨gs, 5, none⟩ (.int .i64 s4)).setCell ⟨gs, 6, none⟩ (.int .i64 s5)) := ((((((((Below.refl _ _).setCell hgw _).setCell hgw _).setCell hgw _).setCell hgw _).setCell hgw _).setCell hgw _).setCell hgw _)
      have hgr : v1.grownBy (((((((v1.setCell ⟨gs, 0, none⟩ (.slice (some ⟨g0_8, 0, none⟩) (n + 1) c0_8)).setCell ⟨gs, 1, none⟩ (.int .i64 s0)).setCell ⟨gs, 2, none⟩ (.int .i64 s1)).setCell ⟨gs, 3, none⟩ (.int .i64 s2)).setCell ⟨gs, 4, none⟩ (.int .i64 s3)).setCell ⟨gs, 5, none⟩ (.int .i64 s4)).setCell ⟨gs, 6, none⟩ (.int .i64 s5)) (some gs) := (only_setCell (only_setCell (only_setCell (only_setCell (only_setCell (only_setCell (only_setCell (only_refl _ _) (p := ⟨gs, 0, none⟩) (.inl rfl) _) (p := ⟨gs, 1, none⟩) (.inl rfl) _) (p := ⟨gs, 2, none⟩) (.inl rfl) _) (p := ⟨gs, 3, none⟩) (.inl rfl) _) (p := ⟨gs, 4, none⟩) (.inl rfl) _) (p := ⟨gs, 5, none⟩) (.inl rfl) _) (p := ⟨gs, 6, none⟩) (.inl rfl) _)
      have HBK : Blk (((((((v1.setCell ⟨gs, 0, none⟩ (.slice (some ⟨g0_8, 0, none⟩) (n + 1) c0_8)).setCell ⟨gs, 1, none⟩ (.int .i64 s0)).setCell ⟨gs, 2, none⟩ (.int .i64 s1)).setCell ⟨gs, 3, none⟩ (.int .i64 s2)).setCell ⟨gs, 4, none⟩ (.int .i64 s3)).setCell ⟨gs, 5, none⟩ (.int .i64 s4)).setCell ⟨gs, 6, none⟩ (.int .i64 s5)) gs 43 #[.slice (some ⟨g0_8, 0, none⟩) (n + 1) c0_8, .int .i64 s0, .int .i64 s1, .int .i64 s2, .int .i64 s3, .int .i64 s4, .int .i64 s5] := by
        have h := (((((((hbk.set_ 0 (.slice (some ⟨g0_8, 0, none⟩) (n + 1) c0_8)).set_ 1 (.int .i64 s0)).set_ 2 (.int .i64 s1)).set_ 3 (.int .i64 s2)).set_ 4 (.int .i64 s3)).set_ 5 (.int .i64 s4)).set_ 6 (.int .i64 s5))
        simpa using h
      refine wpOp_plain rfl rfl ?_
      unfold Oper.wp
      go_simp
      exact hK _ _ ⟨⟨⟨f, rfl⟩, hin.wide hb2⟩, ⟨gs, g0_8, c0_8, hgB, congrArg some hsl, HBK, hb80, ho80.far hbk (by decide) hgr⟩, fun j hj hw hu hf => by
          rcases j with _ | _ | _ | _ | _ | _ | _ | _ | _ | _ | _ | _ | _ | j
          · first | (have h9 : _ = _ := hf; exact h9) | rfl
          · first | (have h9 : _ = _ := hf; exact h9) | rfl
          · exact absurd (hu.symm.trans (show (_ || usesB _ _ _ _) = false by kernel_rfl)) (by decide)
          · first | (have h9 : _ = _ := hf; exact h9) | rfl
          · exact absurd (hu.symm.trans (show (_ || usesB _ _ _ _) = false by kernel_rfl)) (by decide)
          · exact absurd (hu.symm.trans (show (_ || usesB _ _ _ _) = false by kernel_rfl)) (by decide)
          · exact absurd (hu.symm.trans (show (_ || usesB _ _ _ _) = false by kernel_rfl)) (by decide)
          · first | (obtain ⟨g0, c0, h0, b0, o0⟩ := hf; exact ⟨g0, c0, h0, b0, o0.far hbk (by decide) hgr⟩)
          · exact absurd (hu.symm.trans (show (_ || usesB _ _ _ _) = false by kernel_rfl)) (by decide)
          · first | (have h9 : _ = _ := hf; exact h9) | rfl
          · exact absurd (hu.symm.trans (show (_ || usesB _ _ _ _) = false by kernel_rfl)) (by decide)
          · exact absurd rfl hj
          · first | (have h9 : _ = _ := hf; exact h9) | rfl
          · exact trivial⟩
    · obtain rfl := Option.some.inj ho
      have f9 := haf { on := 9, ground := .data } (by simp) rfl rfl
      have f9 : _ = _ := Option.some.inj f9
      refine wpOp_plain rfl rfl ?_
      unfold Oper.wp
      go_simp
      exact hK _ _ ⟨⟨⟨updf f 7 (.bool true), rfl⟩, hin⟩, rfl, fun j hj hw hu hf => by
          rcases j with _ | _ | _ | _ | _ | _ | _ | _ | _ | _ | _ | _ | _ | j
          · first | (have h9 : _ = _ := hf; exact h9) | rfl
          · first | (have h9 : _ = _ := hf; exact h9) | rfl
          · exact hf
          · first | (have h9 : _ = _ := hf; exact h9) | rfl
          · exact hf
          · exact hf
          · exact hf
          · exact hf
          · exact hf
          · first | (have h9 : _ = _ := hf; exact h9) | rfl
          · exact hf
          · exact hf
          · exact absurd rfl hj
          · exact trivial⟩
  intro a w_2 hI hF
  obtain ⟨⟨hIEntT, rfl⟩, hn_2⟩ := hI
  have hb_2 := hn_2.below
  obtain ⟨gs_2, g0_2, c0_2, hgs_2, hs_2, kk_2, hg0_2, ho0_2⟩ := hF 11 (by decide) (by decide)
  have hs_2 : hIEntT 6 = _ := Option.some.inj hs_2
  have he_2_7 : hIEntT 7 = _ := Option.some.inj (hF 12 (by decide) (by decide))
  clear hF
  rw [hs_2, he_2_7]
  clear hs_2 he_2_7
  obtain ⟨b_N, hbn_N⟩ : ∃ b, b = gs_2 := ⟨_, rfl⟩
  rw [← hbn_N] at hgs_2 kk_2 ⊢
  clear hbn_N 
  have hwb_N : w.heap.size ≤ b_N := Nat.le_trans (In.size (B := w.heap.size) (a := w) i_1) (Nat.le_trans hBg_1 hgs_2)
  have NB_A_N : Hid (b_A ≠ b_N) := Lib.hid (by have h1 := k_1_A.lt; have h2 := Nat.le_trans hBg_1 hgs_2; omega)
  have NB_E_N : Hid (b_E ≠ b_N) := Lib.hid (by have h1 := k_1_E.lt; have h2 := Nat.le_trans hBg_1 hgs_2; omega)
  have NB_R_N : Hid (b_R ≠ b_N) := Lib.hid (by have h1 := k_1_R.lt; have h2 := Nat.le_trans hBg_1 hgs_2; omega)
  have kb_2 : Blk w_2 b_N 43 #[.slice (some ⟨g0_2, 0, none⟩) (n + 1) c0_2, .int .i64 s0, .int .i64 s1, .int .i64 s2, .int .i64 s3, .int .i64 s4, .int .i64 s5] := kk_2
  clear kk_2
  have GX_M0N : Hid (w.heap.size ≤ g0_2) := Lib.hid (Nat.le_trans (In.size (B := w.heap.size) (a := w) i_1) (Nat.le_trans hBg_1 hg0_2))
  have o_2_M0N : OCEvent w_2 g0_2 ((n + 1)) c0_2 (xs ++ [⟨x0, x1⟩]) := ho0_2
  clear ho0_2 hg0_2
  have i_2 : In w.heap.size w w_2 := In.step (by (repeat (first | exact In.refl _ | assumption | apply In.alloc | apply In.drewN | apply In.drew | (refine In.step ?_ (by assumption))))) hb_2
  have k_2_A : Blk w_2 b_A 43 #[.slice (some ⟨ga, 0, none⟩) n ca, .int .i64 y0, .int .i64 y1, .int .i64 y2, .int .i64 y3, .int .i64 y4, .int .i64 y5] := Blk.step (by (with_reducible (repeat (first | assumption | exact Blk.new' (by simp) | apply Blk.drewN | apply Blk.drew | apply Blk.alloc | (refine Blk.far ?_ (by (try simp) <;> omega) _))))) hb_2
  obtain ⟨c_2_A_0, c_2_A_1, c_2_A_2, c_2_A_3, c_2_A_4, c_2_A_5, c_2_A_6⟩ := cells7 k_2_A
  have l_2_A := k_2_A.lt
  have k_2_E : Blk w_2 b_E 78 #[.int .i64 x0, .int .i64 x1] := Blk.step (by (with_reducible (repeat (first | assumption | exact Blk.new' (by simp) | apply Blk.drewN | apply Blk.drew | apply Blk.alloc | (refine Blk.far ?_ (by (try simp) <;> omega) _))))) hb_2
  obtain ⟨c_2_E_0, c_2_E_1⟩ := cells2 k_2_E
  have l_2_E := k_2_E.lt
  have k_2_R : Blk w_2 b_R 43 #[.slice none 0 0, .int .i64 0, .int .i64 0, .int .i64 0, .int .i64 0, .int .i64 0, .int .i64 0] := Blk.step (by (with_reducible (repeat (first | assumption | exact Blk.new' (by simp) | apply Blk.drewN | apply Blk.drew | apply Blk.alloc | (refine Blk.far ?_ (by (try simp) <;> omega) _))))) hb_2
  obtain ⟨c_2_R_0, c_2_R_1, c_2_R_2, c_2_R_3, c_2_R_4, c_2_R_5, c_2_R_6⟩ := cells7 k_2_R
  have l_2_R := k_2_R.lt
  have z_2_R := k_2_R.frozen
  have k_2_N : Blk w_2 b_N 43 #[.slice (some ⟨g0_2, 0, none⟩) (n + 1) c0_2, .int .i64 s0, .int .i64 s1, .int .i64 s2, .int .i64 s3, .int .i64 s4, .int .i64 s5] := kb_2
  obtain ⟨c_2_N_0, c_2_N_1, c_2_N_2, c_2_N_3, c_2_N_4, c_2_N_5, c_2_N_6⟩ := cells7 k_2_N
  have l_2_N := k_2_N.lt
  clear i_1 k_1_A c_1_A_0 c_1_A_1 c_1_A_2 c_1_A_3 c_1_A_4 c_1_A_5 c_1_A_6 l_1_A k_1_E c_1_E_0 c_1_E_1 l_1_E k_1_R c_1_R_0 c_1_R_1 c_1_R_2 c_1_R_3 c_1_R_4 c_1_R_5 c_1_R_6 l_1_R z_1_R hb_1
  clear kb_2 hn_2 hgs_2
  clear hBl_1 hBg_1
  go_wp2_with fail
  refine (iBookOk g0_2 (n + 1) c0_2 (xs ++ [⟨x0, x1⟩]) s0 s1 s2 s3 s4 s5 _ (by omega) (OCEvent.reads (by with_reducible (repeat (first | assumption | apply OCEvent.drewN | apply OCEvent.drew | apply OCEvent.alloc))))).mono ?_
  rintro _ w_3 ⟨rfl, hb_3⟩
  rw [HB2.out]
  have i_3 : In w.heap.size w w_3 := In.step (by (repeat (first | exact In.refl _ | assumption | apply In.alloc | apply In.drewN | apply In.drew | (refine In.step ?_ (by assumption))))) hb_3
  have k_3_A : Blk w_3 b_A 43 #[.slice (some ⟨ga, 0, none⟩) n ca, .int .i64 y0, .int .i64 y1, .int .i64 y2, .int .i64 y3, .int .i64 y4, .int .i64 y5] := Blk.step (by (with_reducible (repeat (first | assumption | exact Blk.new' (by simp) | apply Blk.drewN | apply Blk.drew | apply Blk.alloc | (refine Blk.far ?_ (by (try simp) <;> omega) _))))) hb_3
  obtain ⟨c_3_A_0, c_3_A_1, c_3_A_2, c_3_A_3, c_3_A_4, c_3_A_5, c_3_A_6⟩ := cells7 k_3_A
  have l_3_A := k_3_A.lt
  have k_3_E : Blk w_3 b_E 78 #[.int .i64 x0, .int .i64 x1] := Blk.step (by (with_reducible (repeat (first | assumption | exact Blk.new' (by simp) | apply Blk.drewN | apply Blk.drew | apply Blk.alloc | (refine Blk.far ?_ (by (try simp) <;> omega) _))))) hb_3
  obtain ⟨c_3_E_0, c_3_E_1⟩ := cells2 k_3_E
  have l_3_E := k_3_E.lt
  have k_3_R : Blk w_3 b_R 43 #[.slice none 0 0, .int .i64 0, .int .i64 0, .int .i64 0, .int .i64 0, .int .i64 0, .int .i64 0] := Blk.step (by (with_reducible (repeat (first | assumption | exact Blk.new' (by simp) | apply Blk.drewN | apply Blk.drew | apply Blk.alloc | (refine Blk.far ?_ (by (try simp) <;> omega) _))))) hb_3
  obtain ⟨c_3_R_0, c_3_R_1, c_3_R_2, c_3_R_3, c_3_R_4, c_3_R_5, c_3_R_6⟩ := cells7 k_3_R
  have l_3_R := k_3_R.lt
  have z_3_R := k_3_R.frozen
  have k_3_N : Blk w_3 b_N 43 #[.slice (some ⟨g0_2, 0, none⟩) (n + 1) c0_2, .int .i64 s0, .int .i64 s1, .int .i64 s2, .int .i64 s3, .int .i64 s4, .int .i64 s5] := Blk.step (by (with_reducible (repeat (first | assumption | exact Blk.new' (by simp) | apply Blk.drewN | apply Blk.drew | apply Blk.alloc | (refine Blk.far ?_ (by (try simp) <;> omega) _))))) hb_3
  obtain ⟨c_3_N_0, c_3_N_1, c_3_N_2, c_3_N_3, c_3_N_4, c_3_N_5, c_3_N_6⟩ := cells7 k_3_N
  have l_3_N := k_3_N.lt
  have o_3_M0N : OCEvent w_3 g0_2 ((n + 1)) c0_2 (xs ++ [⟨x0, x1⟩]) := OCEvent.step (by with_reducible (repeat (first | assumption | apply OCEvent.drewN | apply OCEvent.drew | apply OCEvent.alloc))) hb_3
  clear i_2 k_2_A c_2_A_0 c_2_A_1 c_2_A_2 c_2_A_3 c_2_A_4 c_2_A_5 c_2_A_6 l_2_A k_2_E c_2_E_0 c_2_E_1 l_2_E k_2_R c_2_R_0 c_2_R_1 c_2_R_2 c_2_R_3 c_2_R_4 c_2_R_5 c_2_R_6 l_2_R z_2_R k_2_N c_2_N_0 c_2_N_1 c_2_N_2 c_2_N_3 c_2_N_4 c_2_N_5 c_2_N_6 l_2_N o_2_M0N hb_2
  by_cases h41 : n + 1 ≤ 40
  · have HV : Hid (enB n xs y0 y1 y2 y3 y4 y5 x0 x1 = true) := Lib.hid (by rw [HE.out]; simpa using h41)
    have hd : decide (n + 1 ≤ 40) = true := by simpa using h41
    rw [hd]
    have hn1_R_A : b_A ≠ b_R := by first | exact NB_A_R.out | exact NB_R_A.out.symm
    have hn2_R_A : b_R ≠ b_A := hn1_R_A.symm
    have hn1_R_E : b_E ≠ b_R := by first | exact NB_E_R.out | exact NB_R_E.out.symm
    have hn2_R_E : b_R ≠ b_E := hn1_R_E.symm
    have hn1_R_N : b_N ≠ b_R := by first | exact NB_N_R.out | exact NB_R_N.out.symm
    have hn2_R_N : b_R ≠ b_N := hn1_R_N.symm
    have kk : Blk (((((((w_3.setCell ⟨b_R, 0, none⟩ (.slice (some ⟨g0_2, 0, none⟩) (n + 1) c0_2)).setCell ⟨b_R, 1, none⟩ (.int .i64 s0)).setCell ⟨b_R, 2, none⟩ (.int .i64 s1)).setCell ⟨b_R, 3, none⟩ (.int .i64 s2)).setCell ⟨b_R, 4, none⟩ (.int .i64 s3)).setCell ⟨b_R, 5, none⟩ (.int .i64 s4)).setCell ⟨b_R, 6, none⟩ (.int .i64 s5)) b_R 43 #[.slice (some ⟨g0_2, 0, none⟩) (n + 1) c0_2, .int .i64 s0, .int .i64 s1, .int .i64 s2, .int .i64 s3, .int .i64 s4, .int .i64 s5] := blks7 k_3_R
    have i9 : In w.heap.size w (((((((w_3.setCell ⟨b_R, 0, none⟩ (.slice (some ⟨g0_2, 0, none⟩) (n + 1) c0_2)).setCell ⟨b_R, 1, none⟩ (.int .i64 s0)).setCell ⟨b_R, 2, none⟩ (.int .i64 s1)).setCell ⟨b_R, 3, none⟩ (.int .i64 s2)).setCell ⟨b_R, 4, none⟩ (.int .i64 s3)).setCell ⟨b_R, 5, none⟩ (.int .i64 s4)).setCell ⟨b_R, 6, none⟩ (.int .i64 s5)) := ins7 i_3 hwb_R
    have OM0N : Hid (OCEvent (((((((w_3.setCell ⟨b_R, 0, none⟩ (.slice (some ⟨g0_2, 0, none⟩) (n + 1) c0_2)).setCell ⟨b_R, 1, none⟩ (.int .i64 s0)).setCell ⟨b_R, 2, none⟩ (.int .i64 s1)).setCell ⟨b_R, 3, none⟩ (.int .i64 s2)).setCell ⟨b_R, 4, none⟩ (.int .i64 s3)).setCell ⟨b_R, 5, none⟩ (.int .i64 s4)).setCell ⟨b_R, 6, none⟩ (.int .i64 s5)) g0_2 ((n + 1)) c0_2 (xs ++ [⟨x0, x1⟩])) := Lib.hid (OCEvent.far o_3_M0N k_3_R (by decide) only7)
    have HK0 : Hid ((_ : World).cell? ⟨b_R, 0, none⟩ = some (.slice (some ⟨g0_2, 0, none⟩) (n + 1) c0_2)) := Lib.hid (kk.cell 0)
    have HK1 : Hid ((_ : World).cell? ⟨b_R, 1, none⟩ = some (.int .i64 s0)) := Lib.hid (kk.cell 1)
    have HK2 : Hid ((_ : World).cell? ⟨b_R, 2, none⟩ = some (.int .i64 s1)) := Lib.hid (kk.cell 2)
    have HK3 : Hid ((_ : World).cell? ⟨b_R, 3, none⟩ = some (.int .i64 s2)) := Lib.hid (kk.cell 3)
    have HK4 : Hid ((_ : World).cell? ⟨b_R, 4, none⟩ = some (.int .i64 s3)) := Lib.hid (kk.cell 4)
    have HK5 : Hid ((_ : World).cell? ⟨b_R, 5, none⟩ = some (.int .i64 s4)) := Lib.hid (kk.cell 5)
    have HK6 : Hid ((_ : World).cell? ⟨b_R, 6, none⟩ = some (.int .i64 s5)) := Lib.hid (kk.cell 6)
    clear kk
    clear o_3_M0N
    go_wp2
    have hk0 := HK0.out
    have hk1 := HK1.out
    have hk2 := HK2.out
    have hk3 := HK3.out
    have hk4 := HK4.out
    have hk5 := HK5.out
    have hk6 := HK6.out
    exact bodyPost_ret (v := .tuple #[.agg #[.slice (some ⟨g0_2, 0, none⟩) (n + 1) c0_2, .int .i64 s0, .int .i64 s1, .int .i64 s2, .int .i64 s3, .int .i64 s4, .int .i64 s5], .bool true]) (by simp [results, Try.results42, go_sem, hk0, hk1, hk2, hk3, hk4, hk5, hk6]) rfl (rowBkV_of (s := ⟨s0, s1, s2, s3, s4, s5⟩) (by simp [enL, HV.out]) (by simp [enS, HV.out, HS.out]) (by rw [HV.out]) OM0N.out GX_M0N.out i9.below)
  have hd : decide (n + 1 ≤ 40) = false := by simpa using h41
  rw [hd]
  have HV : Hid (enB n xs y0 y1 y2 y3 y4 y5 x0 x1 = false) := Lib.hid (by rw [HE.out, hd])
  go_wp2_with fail
  refine (i37Copy ga n ca xs y0 y1 y2 y3 y4 y5 _ (by omega) (HX.out.in_ (by (repeat (first | exact In.refl _ | assumption | apply In.alloc | apply In.drewN | apply In.drew | (refine In.step ?_ (by assumption))))))).mono ?_
  rintro _ w_4 ⟨gC_4, cC_4, rfl, hoC_4, hgC_4, hb_4⟩
  have NE_M0N_C : Hid (g0_2 ≠ gC_4) := Lib.hid (by have h1 := hgC_4; (try simp at h1); have h2 := OCEvent.lt o_3_M0N; omega)
  have GX_C : Hid (w.heap.size ≤ gC_4) := Lib.hid (by have h1 := hgC_4; (try simp at h1); have h2 := In.size i_3; omega)
  have o_4_C : OCEvent w_4 gC_4 (n) cC_4 xs := hoC_4
  clear hoC_4 hgC_4
  have i_4 : In w.heap.size w w_4 := In.step (by (repeat (first | exact In.refl _ | assumption | apply In.alloc | apply In.drewN | apply In.drew | (refine In.step ?_ (by assumption))))) hb_4
  have k_4_A : Blk w_4 b_A 43 #[.slice (some ⟨ga, 0, none⟩) n ca, .int .i64 y0, .int .i64 y1, .int .i64 y2, .int .i64 y3, .int .i64 y4, .int .i64 y5] := Blk.step (by (with_reducible (repeat (first | assumption | exact Blk.new' (by simp) | apply Blk.drewN | apply Blk.drew | apply Blk.alloc | (refine Blk.far ?_ (by (try simp) <;> omega) _))))) hb_4
  obtain ⟨c_4_A_0, c_4_A_1, c_4_A_2, c_4_A_3, c_4_A_4, c_4_A_5, c_4_A_6⟩ := cells7 k_4_A
  have l_4_A := k_4_A.lt
  have k_4_E : Blk w_4 b_E 78 #[.int .i64 x0, .int .i64 x1] := Blk.step (by (with_reducible (repeat (first | assumption | exact Blk.new' (by simp) | apply Blk.drewN | apply Blk.drew | apply Blk.alloc | (refine Blk.far ?_ (by (try simp) <;> omega) _))))) hb_4
  obtain ⟨c_4_E_0, c_4_E_1⟩ := cells2 k_4_E
  have l_4_E := k_4_E.lt
  have k_4_R : Blk w_4 b_R 43 #[.slice none 0 0, .int .i64 0, .int .i64 0, .int .i64 0, .int .i64 0, .int .i64 0, .int .i64 0] := Blk.step (by (with_reducible (repeat (first | assumption | exact Blk.new' (by simp) | apply Blk.drewN | apply Blk.drew | apply Blk.alloc | (refine Blk.far ?_ (by (try simp) <;> omega) _))))) hb_4
  obtain ⟨c_4_R_0, c_4_R_1, c_4_R_2, c_4_R_3, c_4_R_4, c_4_R_5, c_4_R_6⟩ := cells7 k_4_R
  have l_4_R := k_4_R.lt
  have z_4_R := k_4_R.frozen
  have k_4_N : Blk w_4 b_N 43 #[.slice (some ⟨g0_2, 0, none⟩) (n + 1) c0_2, .int .i64 s0, .int .i64 s1, .int .i64 s2, .int .i64 s3, .int .i64 s4, .int .i64 s5] := Blk.step (by (with_reducible (repeat (first | assumption | exact Blk.new' (by simp) | apply Blk.drewN | apply Blk.drew | apply Blk.alloc | (refine Blk.far ?_ (by (try simp) <;> omega) _))))) hb_4
  obtain ⟨c_4_N_0, c_4_N_1, c_4_N_2, c_4_N_3, c_4_N_4, c_4_N_5, c_4_N_6⟩ := cells7 k_4_N
  have l_4_N := k_4_N.lt
  have o_4_M0N : OCEvent w_4 g0_2 ((n + 1)) c0_2 (xs ++ [⟨x0, x1⟩]) := OCEvent.step (by with_reducible (repeat (first | assumption | apply OCEvent.drewN | apply OCEvent.drew | apply OCEvent.alloc))) hb_4
  clear i_3 k_3_A c_3_A_0 c_3_A_1 c_3_A_2 c_3_A_3 c_3_A_4 c_3_A_5 c_3_A_6 l_3_A k_3_E c_3_E_0 c_3_E_1 l_3_E k_3_R c_3_R_0 c_3_R_1 c_3_R_2 c_3_R_3 c_3_R_4 c_3_R_5 c_3_R_6 l_3_R z_3_R k_3_N c_3_N_0 c_3_N_1 c_3_N_2 c_3_N_3 c_3_N_4 c_3_N_5 c_3_N_6 l_3_N o_3_M0N hb_3
  have hn1_R_A : b_A ≠ b_R := by first | exact NB_A_R.out | exact NB_R_A.out.symm
  have hn2_R_A : b_R ≠ b_A := hn1_R_A.symm
  have hn1_R_E : b_E ≠ b_R := by first | exact NB_E_R.out | exact NB_R_E.out.symm
  have hn2_R_E : b_R ≠ b_E := hn1_R_E.symm
  have hn1_R_N : b_N ≠ b_R := by first | exact NB_N_R.out | exact NB_R_N.out.symm
  have hn2_R_N : b_R ≠ b_N := hn1_R_N.symm
  have kk : Blk (((((((w_4.setCell ⟨b_R, 0, none⟩ (.slice (some ⟨gC_4, 0, none⟩) n cC_4)).setCell ⟨b_R, 1, none⟩ (.int .i64 y0)).setCell ⟨b_R, 2, none⟩ (.int .i64 y1)).setCell ⟨b_R, 3, none⟩ (.int .i64 y2)).setCell ⟨b_R, 4, none⟩ (.int .i64 y3)).setCell ⟨b_R, 5, none⟩ (.int .i64 y4)).setCell ⟨b_R, 6, none⟩ (.int .i64 y5)) b_R 43 #[.slice (some ⟨gC_4, 0, none⟩) n cC_4, .int .i64 y0, .int .i64 y1, .int .i64 y2, .int .i64 y3, .int .i64 y4, .int .i64 y5] := blks7 k_4_R
  have i9 : In w.heap.size w (((((((w_4.setCell ⟨b_R, 0, none⟩ (.slice (some ⟨gC_4, 0, none⟩) n cC_4)).setCell ⟨b_R, 1, none⟩ (.int .i64 y0)).setCell ⟨b_R, 2, none⟩ (.int .i64 y1)).setCell ⟨b_R, 3, none⟩ (.int .i64 y2)).setCell ⟨b_R, 4, none⟩ (.int .i64 y3)).setCell ⟨b_R, 5, none⟩ (.int .i64 y4)).setCell ⟨b_R, 6, none⟩ (.int .i64 y5)) := ins7 i_4 hwb_R
  have OM0N : Hid (OCEvent (((((((w_4.setCell ⟨b_R, 0, none⟩ (.slice (some ⟨gC_4, 0, none⟩) n cC_4)).setCell ⟨b_R, 1, none⟩ (.int .i64 y0)).setCell ⟨b_R, 2, none⟩ (.int .i64 y1)).setCell ⟨b_R, 3, none⟩ (.int .i64 y2)).setCell ⟨b_R, 4, none⟩ (.int .i64 y3)).setCell ⟨b_R, 5, none⟩ (.int .i64 y4)).setCell ⟨b_R, 6, none⟩ (.int .i64 y5)) g0_2 ((n + 1)) c0_2 (xs ++ [⟨x0, x1⟩])) := Lib.hid (OCEvent.far o_4_M0N k_4_R (by decide) only7)
  have OC : Hid (OCEvent (((((((w_4.setCell ⟨b_R, 0, none⟩ (.slice (some ⟨gC_4, 0, none⟩) n cC_4)).setCell ⟨b_R, 1, none⟩ (.int .i64 y0)).setCell ⟨b_R, 2, none⟩ (.int .i64 y1)).setCell ⟨b_R, 3, none⟩ (.int .i64 y2)).setCell ⟨b_R, 4, none⟩ (.int .i64 y3)).setCell ⟨b_R, 5, none⟩ (.int .i64 y4)).setCell ⟨b_R, 6, none⟩ (.int .i64 y5)) gC_4 (n) cC_4 xs) := Lib.hid (OCEvent.far o_4_C k_4_R (by decide) only7)
  have HK0 : Hid ((_ : World).cell? ⟨b_R, 0, none⟩ = some (.slice (some ⟨gC_4, 0, none⟩) n cC_4)) := Lib.hid (kk.cell 0)
  have HK1 : Hid ((_ : World).cell? ⟨b_R, 1, none⟩ = some (.int .i64 y0)) := Lib.hid (kk.cell 1)
  have HK2 : Hid ((_ : World).cell? ⟨b_R, 2, none⟩ = some (.int .i64 y1)) := Lib.hid (kk.cell 2)
  have HK3 : Hid ((_ : World).cell? ⟨b_R, 3, none⟩ = some (.int .i64 y2)) := Lib.hid (kk.cell 3)
  have HK4 : Hid ((_ : World).cell? ⟨b_R, 4, none⟩ = some (.int .i64 y3)) := Lib.hid (kk.cell 4)
  have HK5 : Hid ((_ : World).cell? ⟨b_R, 5, none⟩ = some (.int .i64 y4)) := Lib.hid (kk.cell 5)
  have HK6 : Hid ((_ : World).cell? ⟨b_R, 6, none⟩ = some (.int .i64 y5)) := Lib.hid (kk.cell 6)
  clear kk
  clear o_4_M0N o_4_C
  go_wp2
  have hk0 := HK0.out
  have hk1 := HK1.out
  have hk2 := HK2.out
  have hk3 := HK3.out
  have hk4 := HK4.out
  have hk5 := HK5.out
  have hk6 := HK6.out
  exact bodyPost_ret (v := .tuple #[.agg #[.slice (some ⟨gC_4, 0, none⟩) n cC_4, .int .i64 y0, .int .i64 y1, .int .i64 y2, .int .i64 y3, .int .i64 y4, .int .i64 y5], .bool false]) (by simp [results, Try.results42, go_sem, hk0, hk1, hk2, hk3, hk4, hk5, hk6]) rfl (rowBkV_of (s := ⟨y0, y1, y2, y3, y4, y5⟩) (by simp [enL, HV.out]) (by simp [enS, HV.out]) (by rw [HV.out]) OC.out GX_C.out i9.below)
end Go.Proofs.Ytmcfghklfkmfkaa
/- Chapter 37: the length of what Enter answers. -/
namespace Go.Proofs.Ytmcfghklfkmfkaa
open Go.ChangeShapes Go.WideShapes Go.ChangeAt Go.RowKit
set_option linter.unusedVariables false
set_option linter.unusedSimpArgs false
set_option maxHeartbeats 2000000

theorem enL_le {n : Nat} {xs : List EventR} {y0 y1 y2 y3 y4 y5 x0 x1 : Int} (h : xs.length = n) (hn : n ≤ 1048576) : (enL n xs y0 y1 y2 y3 y4 y5 x0 x1).length ≤ 1048576 := by
  unfold enL
  split
  · rename_i h1
    have := enB_40 h1
    rw [List.length_append]; simp; omega
  · omega
end Go.Proofs.Ytmcfghklfkmfkaa
