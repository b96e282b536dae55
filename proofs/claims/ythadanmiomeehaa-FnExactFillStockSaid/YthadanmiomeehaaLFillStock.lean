/- The law of FillStock. -/
import Derived.Test.YthadanmiomeehaaG36
import Derived.Test.YthadanmiomeehaaInv
namespace Go.Proofs.Ythadanmiomeehaa
open Go.ChangeShapes Go.WideShapes Go.ChangeAt Go.RowKit
set_option linter.unusedVariables false
set_option linter.unusedSimpArgs false
def updf (f : Nat → Value) (k : Nat) (v : Value) : Nat → Value := fun j => if j = k then v else f j
def JIFillStocka (w0 : World) (a0 : Option Addr) (len0 : Nat) (cap0 : Nat) (z0 : List Int) (a1 : Int) (a2 : Int) (zs : List Int) (fv : Bool) (b_p0 : Nat) (g_2 : Nat) (g_3 : Nat) (c_3 : Nat) (b_l1 : Nat) (g_5 : Nat) (b_l2 : Nat) (g_7 : Nat) (c_7 : Nat) (b_l3 : Nat) (a : Act) (w : World) : Prop := (∃ f : Nat → Value, a = ⟨#[Value.agg #[Value.slice a0 len0 cap0], Value.int IntKind.i64 a1, Value.int IntKind.i64 a2, Value.pointer (some { block := b_p0, off := 0 }), undef, undef, Value.bool false, Value.int IntKind.i64 (1048576 - ((len0 : Nat) : Int)), Value.pointer (some { block := b_l1, off := 0 }), Value.bool fv, Value.pointer (some { block := b_l2, off := 0 }), Value.pointer (some { block := b_l3, off := 0 }), Value.bool fv, undef, undef, undef, undef, undef, Value.agg #[Value.slice a0 len0 cap0], Value.int IntKind.i64 1048576, Value.int IntKind.i64 (1048576 - ((len0 : Nat) : Int)), Value.int IntKind.i64 (1048576 - ((len0 : Nat) : Int)), Value.bool (decide (1048576 - ((len0 : Nat) : Int) < 0)), Value.tuple #[Value.agg #[Value.slice (some { block := g_3, off := 0 }) zs.length c_3], Value.bool fv], Value.agg #[Value.slice a0 len0 cap0], Value.agg #[Value.slice (some { block := g_2, off := 0 }) len0 len0], Value.int IntKind.i64 a1, Value.int IntKind.i64 a2, Value.tuple #[Value.agg #[Value.slice (some { block := g_3, off := 0 }) zs.length c_3], Value.bool fv], Value.agg #[Value.slice (some { block := g_3, off := 0 }) zs.length c_3], Value.bool fv, Value.agg #[Value.slice a0 len0 cap0], Value.agg #[Value.slice (some { block := g_5, off := 0 }) len0 len0], Value.tuple #[Value.agg #[Value.slice (some { block := g_7, off := 0 }) zs.length c_7], Value.bool fv], Value.agg #[Value.slice (some { block := g_5, off := 0 }) len0 len0], Value.int IntKind.i64 a1, Value.int IntKind.i64 a2, Value.tuple #[Value.agg #[Value.slice (some { block := g_7, off := 0 }) zs.length c_7], Value.bool fv], Value.agg #[Value.slice (some { block := g_7, off := 0 }) zs.length c_7], Value.bool fv, Value.agg #[Value.slice (some { block := g_7, off := 0 }) zs.length c_7], Value.agg #[Value.slice (some { block := g_3, off := 0 }) zs.length c_3], Value.bool true, Value.bool false, Value.bool false, Value.bool fv, Value.bool fv, Value.bool false, Value.bool false, f 49, f 50, f 51, f 52, f 53, undef, undef, undef, undef, undef, undef, undef, undef, undef, undef, undef, undef, undef, undef, undef, undef, undef, undef, undef, undef, undef, undef, undef, undef, undef, undef, undef, undef, undef, undef, undef, undef, undef, undef, undef, undef, undef, undef, undef, undef, undef, undef, undef, undef, undef, undef, undef, undef, undef, undef, undef, undef], []⟩) ∧ In w0.heap.size w0 w
def JFFillStocka (B : Nat) (a0 : Option Addr) (len0 : Nat) (cap0 : Nat) (z0 : List Int) (a1 : Int) (a2 : Int) (zs : List Int) (fv : Bool) (b_p0 : Nat) (g_2 : Nat) (g_3 : Nat) (c_3 : Nat) (b_l1 : Nat) (g_5 : Nat) (b_l2 : Nat) (g_7 : Nat) (c_7 : Nat) (b_l3 : Nat) : Nat → Act → World → Prop
  | 0, a, w => a.tmps[49]? = some (.agg #[.slice (some ⟨g_5, 0, none⟩) len0 len0])
  | 1, a, w => a.tmps[50]? = some (.agg #[.slice a0 len0 cap0])
  | 2, a, w => ∃ g, B ≤ g ∧ a.tmps[51]? = some (.agg #[.slice (some ⟨g, 0, none⟩) len0 len0]) ∧ OwnC w g (len0) len0 (z0.take len0)
  | 3, a, w => a.tmps[52]? = some (.bool true)
  | 4, a, w => a.tmps[53]? = some (.bool false)
  | _, _, _ => True
set_option maxHeartbeats 4000000 in
theorem walk_FnExactFillStock (a0 : Option Addr) (len0 cap0 : Nat) (z0 : List Int) (a1 : Int) (u1 : (Lit.int .i64 a1).wf = true) (a2 : Int) (u2 : (Lit.int .i64 a2).wf = true) (w : World) (w0 : IsRow .i64 w a0 len0 cap0 z0) :
    Calls Try.prog 7 #[.agg #[.slice a0 len0 cap0], .int .i64 a1, .int .i64 a2] w fun e w' => e = .returned (.bool true) ∧ Below w.heap.size w w' := by
  clear u1 u2
  have R0 := Lib.hid (reads_row w0)
  have m0 := row_le w0
  clear w0
  by_cases g0 : (1048576 : Int) < (len0 : Int)
  · go_enter Try.func7, Try.ntmps7
    go_wp2_with fail
    refine (szStock_c a0 len0 cap0 1048576 _ m0 (by omega) (by omega)).mono ?_
    rintro _ w_1 ⟨rfl, hb_1⟩
    rw [if_pos (by omega)]
    have i_1 : In w.heap.size w w_1 := In.step (by (repeat (first | exact In.refl _ | assumption | apply In.alloc | apply In.drewN | apply In.drew | (refine In.step ?_ (by assumption))))) hb_1
    go_wp2
    go_ret
    exact (show Val _ _ _ _ from Val.mk' rfl (by (repeat (first | exact In.refl _ | assumption | apply In.alloc | apply In.drewN | apply In.drew | (refine In.step ?_ (by assumption))))))
  have g0' : (len0 : Int) ≤ 1048576 := by omega
  clear g0
  have hm0 : len0 ≤ 1048576 := by omega
  obtain ⟨zs, h_zs⟩ : ∃ x : List Int, FillStockL len0 (z0.take len0) a1 a2 = x := ⟨_, rfl⟩
  have H_zs := Lib.hid h_zs
  have hbd_zs : zs.length ≤ 1048576 := by rw [← h_zs]; rw [FillStockL_len, R0.out.1]; exact hm0
  clear h_zs
  obtain ⟨fv, h_fv⟩ : ∃ x : Bool, fsB len0 (z0.take len0) a1 a2 = x := ⟨_, rfl⟩
  have H_fv := Lib.hid h_fv
  clear h_fv
  have HsC : Hid (∀ (ad : Addr) (cap : Nat) (W : World), ReadsI W (some ad) len0 (z0.take len0) → Calls Try.prog 23 #[.agg #[.slice (some ad) len0 cap], .int .i64 a1, .int .i64 a2] W (RowStV zs (.bool fv) W)) := Lib.hid (fun ad cap W h => by rw [← H_zs.out, ← H_fv.out]; exact sFillStock ad len0 cap (z0.take len0) a1 a2 W (by omega) h)
  have HiC : Hid (∀ (ad : Addr) (cap : Nat) (W : World), ReadsI W (some ad) len0 (z0.take len0) → Calls Try.prog 24 #[.agg #[.slice (some ad) len0 cap], .int .i64 a1, .int .i64 a2] W (RowStV zs (.bool fv) W)) := Lib.hid (fun ad cap W h => by rw [← H_zs.out, ← H_fv.out]; exact iFillStock ad len0 cap (z0.take len0) a1 a2 W (by omega) h)
  obtain ⟨b_p0, hbx_p0⟩ : ∃ b, b = w.heap.size := ⟨_, rfl⟩
  have kk_p0 : Blk (w.alloc (.cells #[.slice a0 len0 cap0] 24)) b_p0 24 #[.slice a0 len0 cap0] := (Blk.new' (w := w) (t := 24) (cs := #[.slice a0 len0 cap0]) (g := b_p0) (by simp [hbx_p0]))
  have hb_0 : Below w.heap.size w (w.alloc (.cells #[.slice a0 len0 cap0] 24)) := by
    have h : In w.heap.size w (w.alloc (.cells #[.slice a0 len0 cap0] 24)) := by (repeat (first | exact In.refl _ | assumption | apply In.alloc | apply In.drewN | apply In.drew | (refine In.step ?_ (by assumption))))
    exact h.below
  go_enter Try.func7, Try.ntmps7
  go_wp2_with fail
  rw [← hbx_p0]
  clear hbx_p0
  generalize (w.alloc (.cells #[.slice a0 len0 cap0] 24)) = w_0 at *
  have i_0 : In w.heap.size w w_0 := In.step (by (repeat (first | exact In.refl _ | assumption | apply In.alloc | apply In.drewN | apply In.drew | (refine In.step ?_ (by assumption))))) hb_0
  have k_0_p0 : Blk w_0 (b_p0) 24 #[.slice a0 len0 cap0] := kk_p0
  have c_0_p0_0 : w_0.cell? ⟨b_p0, 0, none⟩ = some (.slice a0 len0 cap0) := k_0_p0.cell 0
  have l_0_p0 := k_0_p0.lt
  clear kk_p0
  go_wp2_with fail
  refine (szStock_c a0 len0 cap0 1048576 _ m0 (by omega) (by omega)).mono ?_
  rintro _ w_1 ⟨rfl, hb_1⟩
  rw [if_neg (by omega)]
  have i_1 : In w.heap.size w w_1 := In.step (by (repeat (first | exact In.refl _ | assumption | apply In.alloc | apply In.drewN | apply In.drew | (refine In.step ?_ (by assumption))))) hb_1
  have k_1_p0 : Blk w_1 (b_p0) 24 #[.slice a0 len0 cap0] := Blk.step (by (with_reducible (repeat (first | assumption | exact Blk.new' (by simp) | apply Blk.drewN | apply Blk.drew | apply Blk.alloc | (refine Blk.far ?_ (by (try simp) <;> omega) _))))) hb_1
  have c_1_p0_0 : w_1.cell? ⟨b_p0, 0, none⟩ = some (.slice a0 len0 cap0) := k_1_p0.cell 0
  have l_1_p0 := k_1_p0.lt
  clear i_0 k_0_p0 c_0_p0_0 l_0_p0 hb_0
  go_wp2_with fail
  refine (toStock_c a0 len0 cap0 (z0.take len0) _ (by omega) (by exact R0.out.below (In.below (by (repeat (first | exact In.refl _ | assumption | apply In.alloc | apply In.drewN | apply In.drew | (refine In.step ?_ (by assumption)))))) (Nat.le_refl _))).mono ?_
  rintro _ w_2 ⟨g_2, rfl, ho_2, hg_2, hb_2⟩
  have o_2_X1 : OwnC w_2 g_2 (len0) len0 (z0.take len0) := ho_2
  clear ho_2 hg_2
  have i_2 : In w.heap.size w w_2 := In.step (by (repeat (first | exact In.refl _ | assumption | apply In.alloc | apply In.drewN | apply In.drew | (refine In.step ?_ (by assumption))))) hb_2
  have k_2_p0 : Blk w_2 (b_p0) 24 #[.slice a0 len0 cap0] := Blk.step (by (with_reducible (repeat (first | assumption | exact Blk.new' (by simp) | apply Blk.drewN | apply Blk.drew | apply Blk.alloc | (refine Blk.far ?_ (by (try simp) <;> omega) _))))) hb_2
  have c_2_p0_0 : w_2.cell? ⟨b_p0, 0, none⟩ = some (.slice a0 len0 cap0) := k_2_p0.cell 0
  have l_2_p0 := k_2_p0.lt
  clear i_1 k_1_p0 c_1_p0_0 l_1_p0 hb_1
  go_wp2_with fail
  refine (HsC.out ⟨g_2, 0, none⟩ (len0) _ (by exact OwnC.reads (by (with_reducible (repeat (first | assumption | apply OwnC.drewN | apply OwnC.drew | apply OwnC.alloc)))))).mono ?_
  rintro _ w_3 ⟨g_3, c_3, rfl, ho_3, hg_3, hb_3⟩
  have o_3_X2 : OwnC w_3 g_3 (zs.length) c_3 zs := ho_3
  clear ho_3 hg_3
  have i_3 : In w.heap.size w w_3 := In.step (by (repeat (first | exact In.refl _ | assumption | apply In.alloc | apply In.drewN | apply In.drew | (refine In.step ?_ (by assumption))))) hb_3
  have k_3_p0 : Blk w_3 (b_p0) 24 #[.slice a0 len0 cap0] := Blk.step (by (with_reducible (repeat (first | assumption | exact Blk.new' (by simp) | apply Blk.drewN | apply Blk.drew | apply Blk.alloc | (refine Blk.far ?_ (by (try simp) <;> omega) _))))) hb_3
  have c_3_p0_0 : w_3.cell? ⟨b_p0, 0, none⟩ = some (.slice a0 len0 cap0) := k_3_p0.cell 0
  have l_3_p0 := k_3_p0.lt
  clear i_2 k_2_p0 c_2_p0_0 l_2_p0 o_2_X1 hb_2
  go_wp2_with fail
  obtain ⟨b_l1, hbx_l1⟩ : ∃ b, b = w_3.heap.size := ⟨_, rfl⟩
  rw [← hbx_l1]
  have hb_4 : Below w_3.heap.size w_3 (w_3.alloc (.cells #[.slice (some ⟨g_3, 0, none⟩) zs.length c_3] 27)) := (Below.refl _ _).alloc (Nat.le_refl _) _
  have kk_4 : Blk (w_3.alloc (.cells #[.slice (some ⟨g_3, 0, none⟩) zs.length c_3] 27)) b_l1 27 #[.slice (some ⟨g_3, 0, none⟩) zs.length c_3] := Blk.new' hbx_l1
  clear hbx_l1
  generalize (w_3.alloc (.cells #[.slice (some ⟨g_3, 0, none⟩) zs.length c_3] 27)) = w_4 at *
  have i_4 : In w.heap.size w w_4 := In.step (by (repeat (first | exact In.refl _ | assumption | apply In.alloc | apply In.drewN | apply In.drew | (refine In.step ?_ (by assumption))))) hb_4
  have k_4_p0 : Blk w_4 (b_p0) 24 #[.slice a0 len0 cap0] := Blk.step (by (with_reducible (repeat (first | assumption | exact Blk.new' (by simp) | apply Blk.drewN | apply Blk.drew | apply Blk.alloc | (refine Blk.far ?_ (by (try simp) <;> omega) _))))) hb_4
  have c_4_p0_0 : w_4.cell? ⟨b_p0, 0, none⟩ = some (.slice a0 len0 cap0) := k_4_p0.cell 0
  have l_4_p0 := k_4_p0.lt
  have k_4_l1 : Blk w_4 (b_l1) 27 #[.slice (some ⟨g_3, 0, none⟩) zs.length c_3] := kk_4
  have c_4_l1_0 : w_4.cell? ⟨b_l1, 0, none⟩ = some (.slice (some ⟨g_3, 0, none⟩) zs.length c_3) := k_4_l1.cell 0
  have l_4_l1 := k_4_l1.lt
  have o_4_X2 : OwnC w_4 g_3 (zs.length) c_3 zs := OwnC.step (by (with_reducible (repeat (first | assumption | apply OwnC.drewN | apply OwnC.drew | apply OwnC.alloc)))) hb_4
  clear i_3 k_3_p0 c_3_p0_0 l_3_p0 o_3_X2 hb_3
  clear kk_4
  have HW := Lib.hid (OwnC.reads o_4_X2)
  clear o_4_X2
  have IC := Lib.hid i_4
  have j_4 : In w_4.heap.size w_4 w_4 := In.refl _
  go_wp2_with fail
  refine (toStock_c a0 len0 cap0 (z0.take len0) _ (by omega) (by exact R0.out.below (In.below (IC.out.trans (by (repeat (first | exact In.refl _ | assumption | apply In.alloc | apply In.drewN | apply In.drew | (refine In.step ?_ (by assumption))))))) (Nat.le_refl _))).mono ?_
  rintro _ w_5 ⟨g_5, rfl, ho_5, hg_5, hb_5⟩
  have GX_X3 : Hid (w_4.heap.size ≤ g_5) := Lib.hid (by have h1 := hg_5; (try simp at h1); have h2 := In.size j_4; omega)
  have o_5_X3 : OwnC w_5 g_5 (len0) len0 (z0.take len0) := ho_5
  clear ho_5 hg_5
  have j_5 : In w_4.heap.size w_4 w_5 := In.step (by (repeat (first | exact In.refl _ | assumption | apply In.alloc | apply In.drewN | apply In.drew | (refine In.step ?_ (by assumption))))) hb_5
  have k_5_p0 : Blk w_5 (b_p0) 24 #[.slice a0 len0 cap0] := Blk.step (by (with_reducible (repeat (first | assumption | exact Blk.new' (by simp) | apply Blk.drewN | apply Blk.drew | apply Blk.alloc | (refine Blk.far ?_ (by (try simp) <;> omega) _))))) hb_5
  have c_5_p0_0 : w_5.cell? ⟨b_p0, 0, none⟩ = some (.slice a0 len0 cap0) := k_5_p0.cell 0
  have l_5_p0 := k_5_p0.lt
  have k_5_l1 : Blk w_5 (b_l1) 27 #[.slice (some ⟨g_3, 0, none⟩) zs.length c_3] := Blk.step (by (with_reducible (repeat (first | assumption | exact Blk.new' (by simp) | apply Blk.drewN | apply Blk.drew | apply Blk.alloc | (refine Blk.far ?_ (by (try simp) <;> omega) _))))) hb_5
  have c_5_l1_0 : w_5.cell? ⟨b_l1, 0, none⟩ = some (.slice (some ⟨g_3, 0, none⟩) zs.length c_3) := k_5_l1.cell 0
  have l_5_l1 := k_5_l1.lt
  clear i_4 k_4_p0 c_4_p0_0 l_4_p0 k_4_l1 c_4_l1_0 l_4_l1 hb_4 j_4
  go_wp2_with fail
  obtain ⟨b_l2, hbx_l2⟩ : ∃ b, b = w_5.heap.size := ⟨_, rfl⟩
  rw [← hbx_l2]
  have hb_6 : Below w_5.heap.size w_5 (w_5.alloc (.cells #[.slice (some ⟨g_5, 0, none⟩) len0 len0] 27)) := (Below.refl _ _).alloc (Nat.le_refl _) _
  have kk_6 : Blk (w_5.alloc (.cells #[.slice (some ⟨g_5, 0, none⟩) len0 len0] 27)) b_l2 27 #[.slice (some ⟨g_5, 0, none⟩) len0 len0] := Blk.new' hbx_l2
  clear hbx_l2
  generalize (w_5.alloc (.cells #[.slice (some ⟨g_5, 0, none⟩) len0 len0] 27)) = w_6 at *
  have j_6 : In w_4.heap.size w_4 w_6 := In.step (by (repeat (first | exact In.refl _ | assumption | apply In.alloc | apply In.drewN | apply In.drew | (refine In.step ?_ (by assumption))))) hb_6
  have k_6_p0 : Blk w_6 (b_p0) 24 #[.slice a0 len0 cap0] := Blk.step (by (with_reducible (repeat (first | assumption | exact Blk.new' (by simp) | apply Blk.drewN | apply Blk.drew | apply Blk.alloc | (refine Blk.far ?_ (by (try simp) <;> omega) _))))) hb_6
  have c_6_p0_0 : w_6.cell? ⟨b_p0, 0, none⟩ = some (.slice a0 len0 cap0) := k_6_p0.cell 0
  have l_6_p0 := k_6_p0.lt
  have k_6_l1 : Blk w_6 (b_l1) 27 #[.slice (some ⟨g_3, 0, none⟩) zs.length c_3] := Blk.step (by (with_reducible (repeat (first | assumption | exact Blk.new' (by simp) | apply Blk.drewN | apply Blk.drew | apply Blk.alloc | (refine Blk.far ?_ (by (try simp) <;> omega) _))))) hb_6
  have c_6_l1_0 : w_6.cell? ⟨b_l1, 0, none⟩ = some (.slice (some ⟨g_3, 0, none⟩) zs.length c_3) := k_6_l1.cell 0
  have l_6_l1 := k_6_l1.lt
  have k_6_l2 : Blk w_6 (b_l2) 27 #[.slice (some ⟨g_5, 0, none⟩) len0 len0] := kk_6
  have c_6_l2_0 : w_6.cell? ⟨b_l2, 0, none⟩ = some (.slice (some ⟨g_5, 0, none⟩) len0 len0) := k_6_l2.cell 0
  have l_6_l2 := k_6_l2.lt
  have o_6_X3 : OwnC w_6 g_5 (len0) len0 (z0.take len0) := OwnC.step (by (with_reducible (repeat (first | assumption | apply OwnC.drewN | apply OwnC.drew | apply OwnC.alloc)))) hb_6
  clear j_5 k_5_p0 c_5_p0_0 l_5_p0 k_5_l1 c_5_l1_0 l_5_l1 o_5_X3 hb_5
  clear kk_6
  go_wp2_with fail
  refine (HiC.out ⟨g_5, 0, none⟩ (len0) _ (by exact OwnC.reads (by (with_reducible (repeat (first | assumption | apply OwnC.drewN | apply OwnC.drew | apply OwnC.alloc)))))).mono ?_
  rintro _ w_7 ⟨g_7, c_7, rfl, ho_7, hg_7, hb_7⟩
  have NE_X3_X4 : Hid (g_5 ≠ g_7) := Lib.hid (by have h1 := hg_7; (try simp at h1); have h2 := OwnC.lt o_6_X3; omega)
  have GX_X4 : Hid (w_4.heap.size ≤ g_7) := Lib.hid (by have h1 := hg_7; (try simp at h1); have h2 := In.size j_6; omega)
  have o_7_X4 : OwnC w_7 g_7 (zs.length) c_7 zs := ho_7
  clear ho_7 hg_7
  have j_7 : In w_4.heap.size w_4 w_7 := In.step (by (repeat (first | exact In.refl _ | assumption | apply In.alloc | apply In.drewN | apply In.drew | (refine In.step ?_ (by assumption))))) hb_7
  have k_7_p0 : Blk w_7 (b_p0) 24 #[.slice a0 len0 cap0] := Blk.step (by (with_reducible (repeat (first | assumption | exact Blk.new' (by simp) | apply Blk.drewN | apply Blk.drew | apply Blk.alloc | (refine Blk.far ?_ (by (try simp) <;> omega) _))))) hb_7
  have c_7_p0_0 : w_7.cell? ⟨b_p0, 0, none⟩ = some (.slice a0 len0 cap0) := k_7_p0.cell 0
  have l_7_p0 := k_7_p0.lt
  have k_7_l1 : Blk w_7 (b_l1) 27 #[.slice (some ⟨g_3, 0, none⟩) zs.length c_3] := Blk.step (by (with_reducible (repeat (first | assumption | exact Blk.new' (by simp) | apply Blk.drewN | apply Blk.drew | apply Blk.alloc | (refine Blk.far ?_ (by (try simp) <;> omega) _))))) hb_7
  have c_7_l1_0 : w_7.cell? ⟨b_l1, 0, none⟩ = some (.slice (some ⟨g_3, 0, none⟩) zs.length c_3) := k_7_l1.cell 0
  have l_7_l1 := k_7_l1.lt
  have k_7_l2 : Blk w_7 (b_l2) 27 #[.slice (some ⟨g_5, 0, none⟩) len0 len0] := Blk.step (by (with_reducible (repeat (first | assumption | exact Blk.new' (by simp) | apply Blk.drewN | apply Blk.drew | apply Blk.alloc | (refine Blk.far ?_ (by (try simp) <;> omega) _))))) hb_7
  have c_7_l2_0 : w_7.cell? ⟨b_l2, 0, none⟩ = some (.slice (some ⟨g_5, 0, none⟩) len0 len0) := k_7_l2.cell 0
  have l_7_l2 := k_7_l2.lt
  have o_7_X3 : OwnC w_7 g_5 (len0) len0 (z0.take len0) := OwnC.step (by (with_reducible (repeat (first | assumption | apply OwnC.drewN | apply OwnC.drew | apply OwnC.alloc)))) hb_7
  clear j_6 k_6_p0 c_6_p0_0 l_6_p0 k_6_l1 c_6_l1_0 l_6_l1 k_6_l2 c_6_l2_0 l_6_l2 o_6_X3 hb_6
  go_wp2_with fail
  obtain ⟨b_l3, hbx_l3⟩ : ∃ b, b = w_7.heap.size := ⟨_, rfl⟩
  rw [← hbx_l3]
  have hb_8 : Below w_7.heap.size w_7 (w_7.alloc (.cells #[.slice (some ⟨g_7, 0, none⟩) zs.length c_7] 27)) := (Below.refl _ _).alloc (Nat.le_refl _) _
  have kk_8 : Blk (w_7.alloc (.cells #[.slice (some ⟨g_7, 0, none⟩) zs.length c_7] 27)) b_l3 27 #[.slice (some ⟨g_7, 0, none⟩) zs.length c_7] := Blk.new' hbx_l3
  clear hbx_l3
  generalize (w_7.alloc (.cells #[.slice (some ⟨g_7, 0, none⟩) zs.length c_7] 27)) = w_8 at *
  have j_8 : In w_4.heap.size w_4 w_8 := In.step (by (repeat (first | exact In.refl _ | assumption | apply In.alloc | apply In.drewN | apply In.drew | (refine In.step ?_ (by assumption))))) hb_8
  have k_8_p0 : Blk w_8 (b_p0) 24 #[.slice a0 len0 cap0] := Blk.step (by (with_reducible (repeat (first | assumption | exact Blk.new' (by simp) | apply Blk.drewN | apply Blk.drew | apply Blk.alloc | (refine Blk.far ?_ (by (try simp) <;> omega) _))))) hb_8
  have c_8_p0_0 : w_8.cell? ⟨b_p0, 0, none⟩ = some (.slice a0 len0 cap0) := k_8_p0.cell 0
  have l_8_p0 := k_8_p0.lt
  have k_8_l1 : Blk w_8 (b_l1) 27 #[.slice (some ⟨g_3, 0, none⟩) zs.length c_3] := Blk.step (by (with_reducible (repeat (first | assumption | exact Blk.new' (by simp) | apply Blk.drewN | apply Blk.drew | apply Blk.alloc | (refine Blk.far ?_ (by (try simp) <;> omega) _))))) hb_8
  have c_8_l1_0 : w_8.cell? ⟨b_l1, 0, none⟩ = some (.slice (some ⟨g_3, 0, none⟩) zs.length c_3) := k_8_l1.cell 0
  have l_8_l1 := k_8_l1.lt
  have k_8_l2 : Blk w_8 (b_l2) 27 #[.slice (some ⟨g_5, 0, none⟩) len0 len0] := Blk.step (by (with_reducible (repeat (first | assumption | exact Blk.new' (by simp) | apply Blk.drewN | apply Blk.drew | apply Blk.alloc | (refine Blk.far ?_ (by (try simp) <;> omega) _))))) hb_8
  have c_8_l2_0 : w_8.cell? ⟨b_l2, 0, none⟩ = some (.slice (some ⟨g_5, 0, none⟩) len0 len0) := k_8_l2.cell 0
  have l_8_l2 := k_8_l2.lt
  have k_8_l3 : Blk w_8 (b_l3) 27 #[.slice (some ⟨g_7, 0, none⟩) zs.length c_7] := kk_8
  have c_8_l3_0 : w_8.cell? ⟨b_l3, 0, none⟩ = some (.slice (some ⟨g_7, 0, none⟩) zs.length c_7) := k_8_l3.cell 0
  have l_8_l3 := k_8_l3.lt
  have o_8_X3 : OwnC w_8 g_5 (len0) len0 (z0.take len0) := OwnC.step (by (with_reducible (repeat (first | assumption | apply OwnC.drewN | apply OwnC.drew | apply OwnC.alloc)))) hb_8
  have o_8_X4 : OwnC w_8 g_7 (zs.length) c_7 zs := OwnC.step (by (with_reducible (repeat (first | assumption | apply OwnC.drewN | apply OwnC.drew | apply OwnC.alloc)))) hb_8
  clear j_7 k_7_p0 c_7_p0_0 l_7_p0 k_7_l1 c_7_l1_0 l_7_l1 k_7_l2 c_7_l2_0 l_7_l2 o_7_X3 o_7_X4 hb_7
  clear kk_8
  go_wp2_with fail
  refine (eqStock_c (some ⟨g_7, 0, none⟩) (some ⟨g_3, 0, none⟩) (zs.length) c_7 c_3 zs _ (by (try unfold maxLen); omega) (by exact OwnC.reads (by (with_reducible (repeat (first | assumption | apply OwnC.drewN | apply OwnC.drew | apply OwnC.alloc))))) (by exact HW.out.below (In.below (by (repeat (first | exact In.refl _ | assumption | apply In.alloc | apply In.drewN | apply In.drew | (refine In.step ?_ (by assumption)))))) (Nat.le_refl _))).mono ?_
  rintro _ w_9 ⟨rfl, hb_9⟩
  have j_9 : In w_4.heap.size w_4 w_9 := In.step (by (repeat (first | exact In.refl _ | assumption | apply In.alloc | apply In.drewN | apply In.drew | (refine In.step ?_ (by assumption))))) hb_9
  have k_9_p0 : Blk w_9 (b_p0) 24 #[.slice a0 len0 cap0] := Blk.step (by (with_reducible (repeat (first | assumption | exact Blk.new' (by simp) | apply Blk.drewN | apply Blk.drew | apply Blk.alloc | (refine Blk.far ?_ (by (try simp) <;> omega) _))))) hb_9
  have c_9_p0_0 : w_9.cell? ⟨b_p0, 0, none⟩ = some (.slice a0 len0 cap0) := k_9_p0.cell 0
  have l_9_p0 := k_9_p0.lt
  have k_9_l1 : Blk w_9 (b_l1) 27 #[.slice (some ⟨g_3, 0, none⟩) zs.length c_3] := Blk.step (by (with_reducible (repeat (first | assumption | exact Blk.new' (by simp) | apply Blk.drewN | apply Blk.drew | apply Blk.alloc | (refine Blk.far ?_ (by (try simp) <;> omega) _))))) hb_9
  have c_9_l1_0 : w_9.cell? ⟨b_l1, 0, none⟩ = some (.slice (some ⟨g_3, 0, none⟩) zs.length c_3) := k_9_l1.cell 0
  have l_9_l1 := k_9_l1.lt
  have k_9_l2 : Blk w_9 (b_l2) 27 #[.slice (some ⟨g_5, 0, none⟩) len0 len0] := Blk.step (by (with_reducible (repeat (first | assumption | exact Blk.new' (by simp) | apply Blk.drewN | apply Blk.drew | apply Blk.alloc | (refine Blk.far ?_ (by (try simp) <;> omega) _))))) hb_9
  have c_9_l2_0 : w_9.cell? ⟨b_l2, 0, none⟩ = some (.slice (some ⟨g_5, 0, none⟩) len0 len0) := k_9_l2.cell 0
  have l_9_l2 := k_9_l2.lt
  have k_9_l3 : Blk w_9 (b_l3) 27 #[.slice (some ⟨g_7, 0, none⟩) zs.length c_7] := Blk.step (by (with_reducible (repeat (first | assumption | exact Blk.new' (by simp) | apply Blk.drewN | apply Blk.drew | apply Blk.alloc | (refine Blk.far ?_ (by (try simp) <;> omega) _))))) hb_9
  have c_9_l3_0 : w_9.cell? ⟨b_l3, 0, none⟩ = some (.slice (some ⟨g_7, 0, none⟩) zs.length c_7) := k_9_l3.cell 0
  have l_9_l3 := k_9_l3.lt
  have o_9_X3 : OwnC w_9 g_5 (len0) len0 (z0.take len0) := OwnC.step (by (with_reducible (repeat (first | assumption | apply OwnC.drewN | apply OwnC.drew | apply OwnC.alloc)))) hb_9
  have o_9_X4 : OwnC w_9 g_7 (zs.length) c_7 zs := OwnC.step (by (with_reducible (repeat (first | assumption | apply OwnC.drewN | apply OwnC.drew | apply OwnC.alloc)))) hb_9
  clear j_8 k_8_p0 c_8_p0_0 l_8_p0 k_8_l1 c_8_l1_0 l_8_l1 k_8_l2 c_8_l2_0 l_8_l2 k_8_l3 c_8_l3_0 l_8_l3 o_8_X3 o_8_X4 hb_8
  go_wp2_with fail
  have hBw_9 : w_9.heap.size ≤ w_9.heap.size := Nat.le_refl _
  obtain ⟨B_9, hB_9⟩ : ∃ B, B = w_9.heap.size := ⟨_, rfl⟩
  have hBl_9 : B_9 ≤ w_9.heap.size := by omega
  have hBg_9 : w_9.heap.size ≤ B_9 := by omega
  clear hBw_9 hB_9
  refine wp_region_facts (JIFillStocka w_9 a0 len0 cap0 z0 a1 a2 zs fv b_p0 g_2 g_3 c_3 b_l1 g_5 b_l2 g_7 c_7 b_l3) (JFFillStocka B_9 a0 len0 cap0 z0 a1 a2 zs fv b_p0 g_2 g_3 c_3 b_l1 g_5 b_l2 g_7 c_7 b_l3) (by kernel_rfl) (by kernel_rfl) ⟨⟨fun _ => undef, rfl⟩, (In.refl _).drew⟩ ?_ ?_
  · intro a v1 i o ho hI haf
    obtain ⟨⟨f, rfl⟩, hin⟩ := hI
    have kv_p0 : Blk v1 (b_p0) 24 #[.slice a0 len0 cap0] := Blk.step k_9_p0 hin.below
    have cv_p0_0 := kv_p0.cell 0
    have kv_l1 : Blk v1 (b_l1) 27 #[.slice (some ⟨g_3, 0, none⟩) zs.length c_3] := Blk.step k_9_l1 hin.below
    have cv_l1_0 := kv_l1.cell 0
    have kv_l2 : Blk v1 (b_l2) 27 #[.slice (some ⟨g_5, 0, none⟩) len0 len0] := Blk.step k_9_l2 hin.below
    have cv_l2_0 := kv_l2.cell 0
    have kv_l3 : Blk v1 (b_l3) 27 #[.slice (some ⟨g_7, 0, none⟩) zs.length c_7] := Blk.step k_9_l3 hin.below
    have cv_l3_0 := kv_l3.cell 0
    have ov_X3 : OwnC v1 g_5 (len0) len0 (z0.take len0) := OwnC.step o_9_X3 hin.below
    have ov_X4 : OwnC v1 g_7 (zs.length) c_7 zs := OwnC.step o_9_X4 hin.below
    have hi : i < 5 := by
      rcases Nat.lt_or_ge i 5 with h | h
      · exact h
      · simp [h] at ho
    suffices H : ∀ K : Act → World → Prop, (∀ a' w', ((JIFillStocka w_9 a0 len0 cap0 z0 a1 a2 zs fv b_p0 g_2 g_3 c_3 b_l1 g_5 b_l2 g_7 c_7 b_l3) a' w' ∧ (JFFillStocka B_9 a0 len0 cap0 z0 a1 a2 zs fv b_p0 g_2 g_3 c_3 b_l1 g_5 b_l2 g_7 c_7 b_l3) i a' w' ∧ ∀ j, j ≠ i → waitsB _ j i = false → (JFFillStocka B_9 a0 len0 cap0 z0 a1 a2 zs fv b_p0 g_2 g_3 c_3 b_l1 g_5 b_l2 g_7 c_7 b_l3) j ⟨#[Value.agg #[Value.slice a0 len0 cap0], Value.int IntKind.i64 a1, Value.int IntKind.i64 a2, Value.pointer (some { block := b_p0, off := 0 }), undef, undef, Value.bool false, Value.int IntKind.i64 (1048576 - ((len0 : Nat) : Int)), Value.pointer (some { block := b_l1, off := 0 }), Value.bool fv, Value.pointer (some { block := b_l2, off := 0 }), Value.pointer (some { block := b_l3, off := 0 }), Value.bool fv, undef, undef, undef, undef, undef, Value.agg #[Value.slice a0 len0 cap0], Value.int IntKind.i64 1048576, Value.int IntKind.i64 (1048576 - ((len0 : Nat) : Int)), Value.int IntKind.i64 (1048576 - ((len0 : Nat) : Int)), Value.bool (decide (1048576 - ((len0 : Nat) : Int) < 0)), Value.tuple #[Value.agg #[Value.slice (some { block := g_3, off := 0 }) zs.length c_3], Value.bool fv], Value.agg #[Value.slice a0 len0 cap0], Value.agg #[Value.slice (some { block := g_2, off := 0 }) len0 len0], Value.int IntKind.i64 a1, Value.int IntKind.i64 a2, Value.tuple #[Value.agg #[Value.slice (some { block := g_3, off := 0 }) zs.length c_3], Value.bool fv], Value.agg #[Value.slice (some { block := g_3, off := 0 }) zs.length c_3], Value.bool fv, Value.agg #[Value.slice a0 len0 cap0], Value.agg #[Value.slice (some { block := g_5, off := 0 }) len0 len0], Value.tuple #[Value.agg #[Value.slice (some { block := g_7, off := 0 }) zs.length c_7], Value.bool fv], Value.agg #[Value.slice (some { block := g_5, off := 0 }) len0 len0], Value.int IntKind.i64 a1, Value.int IntKind.i64 a2, Value.tuple #[Value.agg #[Value.slice (some { block := g_7, off := 0 }) zs.length c_7], Value.bool fv], Value.agg #[Value.slice (some { block := g_7, off := 0 }) zs.length c_7], Value.bool fv, Value.agg #[Value.slice (some { block := g_7, off := 0 }) zs.length c_7], Value.agg #[Value.slice (some { block := g_3, off := 0 }) zs.length c_3], Value.bool true, Value.bool false, Value.bool false, Value.bool fv, Value.bool fv, Value.bool false, Value.bool false, f 49, f 50, f 51, f 52, f 53, undef, undef, undef, undef, undef, undef, undef, undef, undef, undef, undef, undef, undef, undef, undef, undef, undef, undef, undef, undef, undef, undef, undef, undef, undef, undef, undef, undef, undef, undef, undef, undef, undef, undef, undef, undef, undef, undef, undef, undef, undef, undef, undef, undef, undef, undef, undef, undef, undef, undef, undef, undef], []⟩ v1 → (JFFillStocka B_9 a0 len0 cap0 z0 a1 a2 zs fv b_p0 g_2 g_3 c_3 b_l1 g_5 b_l2 g_7 c_7 b_l3) j a' w') → K a' w') → wpOp _ _ _ i K ⟨#[Value.agg #[Value.slice a0 len0 cap0], Value.int IntKind.i64 a1, Value.int IntKind.i64 a2, Value.pointer (some { block := b_p0, off := 0 }), undef, undef, Value.bool false, Value.int IntKind.i64 (1048576 - ((len0 : Nat) : Int)), Value.pointer (some { block := b_l1, off := 0 }), Value.bool fv, Value.pointer (some { block := b_l2, off := 0 }), Value.pointer (some { block := b_l3, off := 0 }), Value.bool fv, undef, undef, undef, undef, undef, Value.agg #[Value.slice a0 len0 cap0], Value.int IntKind.i64 1048576, Value.int IntKind.i64 (1048576 - ((len0 : Nat) : Int)), Value.int IntKind.i64 (1048576 - ((len0 : Nat) : Int)), Value.bool (decide (1048576 - ((len0 : Nat) : Int) < 0)), Value.tuple #[Value.agg #[Value.slice (some { block := g_3, off := 0 }) zs.length c_3], Value.bool fv], Value.agg #[Value.slice a0 len0 cap0], Value.agg #[Value.slice (some { block := g_2, off := 0 }) len0 len0], Value.int IntKind.i64 a1, Value.int IntKind.i64 a2, Value.tuple #[Value.agg #[Value.slice (some { block := g_3, off := 0 }) zs.length c_3], Value.bool fv], Value.agg #[Value.slice (some { block := g_3, off := 0 }) zs.length c_3], Value.bool fv, Value.agg #[Value.slice a0 len0 cap0], Value.agg #[Value.slice (some { block := g_5, off := 0 }) len0 len0], Value.tuple #[Value.agg #[Value.slice (some { block := g_7, off := 0 }) zs.length c_7], Value.bool fv], Value.agg #[Value.slice (some { block := g_5, off := 0 }) len0 len0], Value.int IntKind.i64 a1, Value.int IntKind.i64 a2, Value.tuple #[Value.agg #[Value.slice (some { block := g_7, off := 0 }) zs.length c_7], Value.bool fv], Value.agg #[Value.slice (some { block := g_7, off := 0 }) zs.length c_7], Value.bool fv, Value.agg #[Value.slice (some { block := g_7, off := 0 }) zs.length c_7], Value.agg #[Value.slice (some { block := g_3, off := 0 }) zs.length c_3], Value.bool true, Value.bool false, Value.bool false, Value.bool fv, Value.bool fv, Value.bool false, Value.bool false, f 49, f 50, f 51, f 52, f 53, undef, undef, undef, undef, undef, undef, undef, undef, undef, undef, undef, undef, undef, undef, undef, undef, undef, undef, undef, undef, undef, undef, undef, undef, undef, undef, undef, undef, undef, undef, undef, undef, undef, undef, undef, undef, undef, undef, undef, undef, undef, undef, undef, undef, undef, undef, undef, undef, undef, undef, undef, undef], []⟩ v1 from H _ fun _ _ h => h
    intro K hK
    rcases (by omega : i = 0 ∨ i = 1 ∨ i = 2 ∨ i = 3 ∨ i = 4) with rfl | rfl | rfl | rfl | rfl
    · obtain rfl := Option.some.inj ho
      refine wpOp_plain rfl rfl ?_
      unfold Oper.wp
      go_simp
      exact hK _ _ ⟨⟨⟨updf f 49 (.agg #[.slice (some ⟨g_5, 0, none⟩) len0 len0]), rfl⟩, hin⟩, rfl, fun j hj hw hf => by
          rcases j with _ | _ | _ | _ | _ | j
          all_goals first | exact absurd rfl hj | exact hf | rfl⟩
    · obtain rfl := Option.some.inj ho
      refine wpOp_plain rfl rfl ?_
      unfold Oper.wp
      go_simp
      exact hK _ _ ⟨⟨⟨updf f 50 (.agg #[.slice a0 len0 cap0]), rfl⟩, hin⟩, rfl, fun j hj hw hf => by
          rcases j with _ | _ | _ | _ | _ | j
          all_goals first | exact absurd rfl hj | exact hf | rfl⟩
    · obtain rfl := Option.some.inj ho
      have f1 := haf { on := 1, ground := .data } (by simp) rfl
      have f1 : _ = _ := Option.some.inj f1
      refine wpOp_plain rfl rfl ?_
      unfold Oper.wp
      go_simp
      refine (toStock_c a0 len0 cap0 (z0.take len0) _ (by omega) (R0.out.below ((IC.out.trans j_9).trans hin).below (Nat.le_refl _))).mono ?_
      rintro _ v2 ⟨g2, rfl, ho2, hg2, hb2⟩
      exact hK _ _ ⟨⟨⟨updf f 51 (.agg #[.slice (some ⟨g2, 0, none⟩) len0 len0]), rfl⟩, hin.step hb2⟩, ⟨g2, Nat.le_trans (Nat.le_trans hBl_9 hin.size) hg2, rfl, ho2⟩, fun j hj hw hf => by
          rcases j with _ | _ | _ | _ | _ | j
          all_goals first | exact absurd rfl hj | exact hf | rfl | (obtain ⟨g, c, h0, h1, h2⟩ := hf; exact ⟨g, c, h0, h1, h2.step hb2⟩) | (obtain ⟨g, h0, h1, h2⟩ := hf; exact ⟨g, h0, h1, h2.step hb2⟩) | (obtain ⟨gs, X, h0, h1, h2⟩ := hf; exact ⟨gs, X, h0, h1, h2.step hb2⟩) | (obtain ⟨gs, g, c, h0, h1, h2, h3, h4⟩ := hf; exact ⟨gs, g, c, h0, h1, h2.step hb2, h3, h4.step hb2⟩)⟩
    · obtain rfl := Option.some.inj ho
      have f0 := haf { on := 0, ground := .data } (by simp) rfl
      have f0 : _ = _ := Option.some.inj f0
      obtain ⟨g_2, hb2, f2, ho2⟩ := haf { on := 2, ground := .data } (by simp) rfl
      have f2 : _ = _ := Option.some.inj f2
      refine wpOp_plain rfl rfl ?_
      unfold Oper.wp
      go_simp
      refine (eqStock_c (some ⟨g_5, 0, none⟩) (some ⟨g_2, 0, none⟩) (len0) len0 len0 (z0.take len0) _ (by (try unfold maxLen); omega) (ov_X3.reads) (ho2.reads)).mono ?_
      rintro _ v2 ⟨rfl, hb2⟩
      exact hK _ _ ⟨⟨⟨updf f 52 (.bool true), rfl⟩, hin.step hb2⟩, rfl, fun j hj hw hf => by
          rcases j with _ | _ | _ | _ | _ | j
          all_goals first | exact absurd rfl hj | exact hf | rfl | (obtain ⟨g, c, h0, h1, h2⟩ := hf; exact ⟨g, c, h0, h1, h2.step hb2⟩) | (obtain ⟨g, h0, h1, h2⟩ := hf; exact ⟨g, h0, h1, h2.step hb2⟩) | (obtain ⟨gs, X, h0, h1, h2⟩ := hf; exact ⟨gs, X, h0, h1, h2.step hb2⟩) | (obtain ⟨gs, g, c, h0, h1, h2, h3, h4⟩ := hf; exact ⟨gs, g, c, h0, h1, h2.step hb2, h3, h4.step hb2⟩)⟩
    · obtain rfl := Option.some.inj ho
      have f3 := haf { on := 3, ground := .data } (by simp) rfl
      have f3 : _ = _ := Option.some.inj f3
      refine wpOp_plain rfl rfl ?_
      unfold Oper.wp
      go_simp
      exact hK _ _ ⟨⟨⟨updf f 53 (.bool false), rfl⟩, hin⟩, rfl, fun j hj hw hf => by
          rcases j with _ | _ | _ | _ | _ | j
          all_goals first | exact absurd rfl hj | exact hf | rfl⟩
  intro a w_10 hI hF
  obtain ⟨⟨ha, rfl⟩, hn_10⟩ := hI
  have hb_10 := hn_10.below
  have he_10_53 : ha 53 = _ := Option.some.inj (hF 4 (by decide))
  clear hF
  rw [he_10_53]
  clear he_10_53
  have j_10 : In w_4.heap.size w_4 w_10 := In.step (by (repeat (first | exact In.refl _ | assumption | apply In.alloc | apply In.drewN | apply In.drew | (refine In.step ?_ (by assumption))))) hb_10
  have k_10_p0 : Blk w_10 (b_p0) 24 #[.slice a0 len0 cap0] := Blk.step (by (with_reducible (repeat (first | assumption | exact Blk.new' (by simp) | apply Blk.drewN | apply Blk.drew | apply Blk.alloc | (refine Blk.far ?_ (by (try simp) <;> omega) _))))) hb_10
  have c_10_p0_0 : w_10.cell? ⟨b_p0, 0, none⟩ = some (.slice a0 len0 cap0) := k_10_p0.cell 0
  have l_10_p0 := k_10_p0.lt
  have k_10_l1 : Blk w_10 (b_l1) 27 #[.slice (some ⟨g_3, 0, none⟩) zs.length c_3] := Blk.step (by (with_reducible (repeat (first | assumption | exact Blk.new' (by simp) | apply Blk.drewN | apply Blk.drew | apply Blk.alloc | (refine Blk.far ?_ (by (try simp) <;> omega) _))))) hb_10
  have c_10_l1_0 : w_10.cell? ⟨b_l1, 0, none⟩ = some (.slice (some ⟨g_3, 0, none⟩) zs.length c_3) := k_10_l1.cell 0
  have l_10_l1 := k_10_l1.lt
  have k_10_l2 : Blk w_10 (b_l2) 27 #[.slice (some ⟨g_5, 0, none⟩) len0 len0] := Blk.step (by (with_reducible (repeat (first | assumption | exact Blk.new' (by simp) | apply Blk.drewN | apply Blk.drew | apply Blk.alloc | (refine Blk.far ?_ (by (try simp) <;> omega) _))))) hb_10
  have c_10_l2_0 : w_10.cell? ⟨b_l2, 0, none⟩ = some (.slice (some ⟨g_5, 0, none⟩) len0 len0) := k_10_l2.cell 0
  have l_10_l2 := k_10_l2.lt
  have k_10_l3 : Blk w_10 (b_l3) 27 #[.slice (some ⟨g_7, 0, none⟩) zs.length c_7] := Blk.step (by (with_reducible (repeat (first | assumption | exact Blk.new' (by simp) | apply Blk.drewN | apply Blk.drew | apply Blk.alloc | (refine Blk.far ?_ (by (try simp) <;> omega) _))))) hb_10
  have c_10_l3_0 : w_10.cell? ⟨b_l3, 0, none⟩ = some (.slice (some ⟨g_7, 0, none⟩) zs.length c_7) := k_10_l3.cell 0
  have l_10_l3 := k_10_l3.lt
  have o_10_X3 : OwnC w_10 g_5 (len0) len0 (z0.take len0) := OwnC.step (by (with_reducible (repeat (first | assumption | apply OwnC.drewN | apply OwnC.drew | apply OwnC.alloc)))) hb_10
  have o_10_X4 : OwnC w_10 g_7 (zs.length) c_7 zs := OwnC.step (by (with_reducible (repeat (first | assumption | apply OwnC.drewN | apply OwnC.drew | apply OwnC.alloc)))) hb_10
  clear j_9 k_9_p0 c_9_p0_0 l_9_p0 k_9_l1 c_9_l1_0 l_9_l1 k_9_l2 c_9_l2_0 l_9_l2 k_9_l3 c_9_l3_0 l_9_l3 o_9_X3 o_9_X4 hb_9
  clear hn_10
  clear hBl_9 hBg_9
  go_wp2_with fail
  refine (markStock_c g_5 (len0) len0 (1) (z0.take len0) _ (by omega) (by omega) (by (with_reducible (repeat (first | assumption | apply OwnC.drewN | apply OwnC.drew | apply OwnC.alloc))))).mono ?_
  rintro _ w_11 ⟨rfl, ho_11, hb_11⟩
  have o_11_X3 : OwnC w_11 g_5 (len0) len0 (marksI (1) (len0)) := ho_11
  clear ho_11
  have j_11 : In w_4.heap.size w_4 w_11 := In.wide (by (repeat (first | exact In.refl _ | assumption | apply In.alloc | apply In.drewN | apply In.drew | (refine In.step ?_ (by assumption))))) (below_of_only hb_11 GX_X3.out (In.size (B := w_4.heap.size) (a := w_4) (by (repeat (first | exact In.refl _ | assumption | apply In.alloc | apply In.drewN | apply In.drew | (refine In.step ?_ (by assumption)))))))
  have k_11_p0 : Blk w_11 (b_p0) 24 #[.slice a0 len0 cap0] := Blk.grown k_10_p0 hb_11 (fun h => (OwnC.ne o_10_X3 k_10_p0 (by decide)) (Option.some.inj h).symm)
  have c_11_p0_0 : w_11.cell? ⟨b_p0, 0, none⟩ = some (.slice a0 len0 cap0) := k_11_p0.cell 0
  have l_11_p0 := k_11_p0.lt
  have k_11_l1 : Blk w_11 (b_l1) 27 #[.slice (some ⟨g_3, 0, none⟩) zs.length c_3] := Blk.grown k_10_l1 hb_11 (fun h => (OwnC.ne o_10_X3 k_10_l1 (by decide)) (Option.some.inj h).symm)
  have c_11_l1_0 : w_11.cell? ⟨b_l1, 0, none⟩ = some (.slice (some ⟨g_3, 0, none⟩) zs.length c_3) := k_11_l1.cell 0
  have l_11_l1 := k_11_l1.lt
  have k_11_l2 : Blk w_11 (b_l2) 27 #[.slice (some ⟨g_5, 0, none⟩) len0 len0] := Blk.grown k_10_l2 hb_11 (fun h => (OwnC.ne o_10_X3 k_10_l2 (by decide)) (Option.some.inj h).symm)
  have c_11_l2_0 : w_11.cell? ⟨b_l2, 0, none⟩ = some (.slice (some ⟨g_5, 0, none⟩) len0 len0) := k_11_l2.cell 0
  have l_11_l2 := k_11_l2.lt
  have k_11_l3 : Blk w_11 (b_l3) 27 #[.slice (some ⟨g_7, 0, none⟩) zs.length c_7] := Blk.grown k_10_l3 hb_11 (fun h => (OwnC.ne o_10_X3 k_10_l3 (by decide)) (Option.some.inj h).symm)
  have c_11_l3_0 : w_11.cell? ⟨b_l3, 0, none⟩ = some (.slice (some ⟨g_7, 0, none⟩) zs.length c_7) := k_11_l3.cell 0
  have l_11_l3 := k_11_l3.lt
  have o_11_X4 : OwnC w_11 g_7 (zs.length) c_7 zs := OwnC.only (by (with_reducible (repeat (first | assumption | apply OwnC.drewN | apply OwnC.drew | apply OwnC.alloc)))) hb_11 (by first | exact NE_X4_X3.out | exact NE_X3_X4.out.symm)
  clear j_10 k_10_p0 c_10_p0_0 l_10_p0 k_10_l1 c_10_l1_0 l_10_l1 k_10_l2 c_10_l2_0 l_10_l2 k_10_l3 c_10_l3_0 l_10_l3 o_10_X3 o_10_X4 hb_10
  go_wp2_with fail
  refine (eqStock_c (some ⟨g_7, 0, none⟩) (some ⟨g_3, 0, none⟩) (zs.length) c_7 c_3 zs _ (by (try unfold maxLen); omega) (by exact OwnC.reads (by (with_reducible (repeat (first | assumption | apply OwnC.drewN | apply OwnC.drew | apply OwnC.alloc))))) (by exact HW.out.below (In.below (by (repeat (first | exact In.refl _ | assumption | apply In.alloc | apply In.drewN | apply In.drew | (refine In.step ?_ (by assumption)))))) (Nat.le_refl _))).mono ?_
  rintro _ w_12 ⟨rfl, hb_12⟩
  have j_12 : In w_4.heap.size w_4 w_12 := In.step (by (repeat (first | exact In.refl _ | assumption | apply In.alloc | apply In.drewN | apply In.drew | (refine In.step ?_ (by assumption))))) hb_12
  have k_12_p0 : Blk w_12 (b_p0) 24 #[.slice a0 len0 cap0] := Blk.step (by (with_reducible (repeat (first | assumption | exact Blk.new' (by simp) | apply Blk.drewN | apply Blk.drew | apply Blk.alloc | (refine Blk.far ?_ (by (try simp) <;> omega) _))))) hb_12
  have c_12_p0_0 : w_12.cell? ⟨b_p0, 0, none⟩ = some (.slice a0 len0 cap0) := k_12_p0.cell 0
  have l_12_p0 := k_12_p0.lt
  have k_12_l1 : Blk w_12 (b_l1) 27 #[.slice (some ⟨g_3, 0, none⟩) zs.length c_3] := Blk.step (by (with_reducible (repeat (first | assumption | exact Blk.new' (by simp) | apply Blk.drewN | apply Blk.drew | apply Blk.alloc | (refine Blk.far ?_ (by (try simp) <;> omega) _))))) hb_12
  have c_12_l1_0 : w_12.cell? ⟨b_l1, 0, none⟩ = some (.slice (some ⟨g_3, 0, none⟩) zs.length c_3) := k_12_l1.cell 0
  have l_12_l1 := k_12_l1.lt
  have k_12_l2 : Blk w_12 (b_l2) 27 #[.slice (some ⟨g_5, 0, none⟩) len0 len0] := Blk.step (by (with_reducible (repeat (first | assumption | exact Blk.new' (by simp) | apply Blk.drewN | apply Blk.drew | apply Blk.alloc | (refine Blk.far ?_ (by (try simp) <;> omega) _))))) hb_12
  have c_12_l2_0 : w_12.cell? ⟨b_l2, 0, none⟩ = some (.slice (some ⟨g_5, 0, none⟩) len0 len0) := k_12_l2.cell 0
  have l_12_l2 := k_12_l2.lt
  have k_12_l3 : Blk w_12 (b_l3) 27 #[.slice (some ⟨g_7, 0, none⟩) zs.length c_7] := Blk.step (by (with_reducible (repeat (first | assumption | exact Blk.new' (by simp) | apply Blk.drewN | apply Blk.drew | apply Blk.alloc | (refine Blk.far ?_ (by (try simp) <;> omega) _))))) hb_12
  have c_12_l3_0 : w_12.cell? ⟨b_l3, 0, none⟩ = some (.slice (some ⟨g_7, 0, none⟩) zs.length c_7) := k_12_l3.cell 0
  have l_12_l3 := k_12_l3.lt
  have o_12_X3 : OwnC w_12 g_5 (len0) len0 (marksI (1) (len0)) := OwnC.step (by (with_reducible (repeat (first | assumption | apply OwnC.drewN | apply OwnC.drew | apply OwnC.alloc)))) hb_12
  have o_12_X4 : OwnC w_12 g_7 (zs.length) c_7 zs := OwnC.step (by (with_reducible (repeat (first | assumption | apply OwnC.drewN | apply OwnC.drew | apply OwnC.alloc)))) hb_12
  clear j_11 k_11_p0 c_11_p0_0 l_11_p0 k_11_l1 c_11_l1_0 l_11_l1 k_11_l2 c_11_l2_0 l_11_l2 k_11_l3 c_11_l3_0 l_11_l3 o_11_X3 o_11_X4 hb_11
  go_wp2_with fail
  refine (markStock_c g_7 (zs.length) c_7 (1) zs _ (by omega) (by omega) (by (with_reducible (repeat (first | assumption | apply OwnC.drewN | apply OwnC.drew | apply OwnC.alloc))))).mono ?_
  rintro _ w_13 ⟨rfl, ho_13, hb_13⟩
  have o_13_X4 : OwnC w_13 g_7 (zs.length) c_7 (marksI (1) (zs.length)) := ho_13
  clear ho_13
  have j_13 : In w_4.heap.size w_4 w_13 := In.wide (by (repeat (first | exact In.refl _ | assumption | apply In.alloc | apply In.drewN | apply In.drew | (refine In.step ?_ (by assumption))))) (below_of_only hb_13 GX_X4.out (In.size (B := w_4.heap.size) (a := w_4) (by (repeat (first | exact In.refl _ | assumption | apply In.alloc | apply In.drewN | apply In.drew | (refine In.step ?_ (by assumption)))))))
  have k_13_p0 : Blk w_13 (b_p0) 24 #[.slice a0 len0 cap0] := Blk.grown k_12_p0 hb_13 (fun h => (OwnC.ne o_12_X4 k_12_p0 (by decide)) (Option.some.inj h).symm)
  have c_13_p0_0 : w_13.cell? ⟨b_p0, 0, none⟩ = some (.slice a0 len0 cap0) := k_13_p0.cell 0
  have l_13_p0 := k_13_p0.lt
  have k_13_l1 : Blk w_13 (b_l1) 27 #[.slice (some ⟨g_3, 0, none⟩) zs.length c_3] := Blk.grown k_12_l1 hb_13 (fun h => (OwnC.ne o_12_X4 k_12_l1 (by decide)) (Option.some.inj h).symm)
  have c_13_l1_0 : w_13.cell? ⟨b_l1, 0, none⟩ = some (.slice (some ⟨g_3, 0, none⟩) zs.length c_3) := k_13_l1.cell 0
  have l_13_l1 := k_13_l1.lt
  have k_13_l2 : Blk w_13 (b_l2) 27 #[.slice (some ⟨g_5, 0, none⟩) len0 len0] := Blk.grown k_12_l2 hb_13 (fun h => (OwnC.ne o_12_X4 k_12_l2 (by decide)) (Option.some.inj h).symm)
  have c_13_l2_0 : w_13.cell? ⟨b_l2, 0, none⟩ = some (.slice (some ⟨g_5, 0, none⟩) len0 len0) := k_13_l2.cell 0
  have l_13_l2 := k_13_l2.lt
  have k_13_l3 : Blk w_13 (b_l3) 27 #[.slice (some ⟨g_7, 0, none⟩) zs.length c_7] := Blk.grown k_12_l3 hb_13 (fun h => (OwnC.ne o_12_X4 k_12_l3 (by decide)) (Option.some.inj h).symm)
  have c_13_l3_0 : w_13.cell? ⟨b_l3, 0, none⟩ = some (.slice (some ⟨g_7, 0, none⟩) zs.length c_7) := k_13_l3.cell 0
  have l_13_l3 := k_13_l3.lt
  have o_13_X3 : OwnC w_13 g_5 (len0) len0 (marksI (1) (len0)) := OwnC.only (by (with_reducible (repeat (first | assumption | apply OwnC.drewN | apply OwnC.drew | apply OwnC.alloc)))) hb_13 (by first | exact NE_X3_X4.out | exact NE_X4_X3.out.symm)
  clear j_12 k_12_p0 c_12_p0_0 l_12_p0 k_12_l1 c_12_l1_0 l_12_l1 k_12_l2 c_12_l2_0 l_12_l2 k_12_l3 c_12_l3_0 l_12_l3 o_12_X3 o_12_X4 hb_12
  go_wp2_with fail
  refine (heldStock_c (some ⟨g_7, 0, none⟩) (zs.length) c_7 (1) _ (by omega) (by omega) (by exact OwnC.reads (by (with_reducible (repeat (first | assumption | apply OwnC.drewN | apply OwnC.drew | apply OwnC.alloc)))))).mono ?_
  rintro _ w_14 ⟨rfl, hb_14⟩
  have j_14 : In w_4.heap.size w_4 w_14 := In.step (by (repeat (first | exact In.refl _ | assumption | apply In.alloc | apply In.drewN | apply In.drew | (refine In.step ?_ (by assumption))))) hb_14
  have k_14_p0 : Blk w_14 (b_p0) 24 #[.slice a0 len0 cap0] := Blk.step (by (with_reducible (repeat (first | assumption | exact Blk.new' (by simp) | apply Blk.drewN | apply Blk.drew | apply Blk.alloc | (refine Blk.far ?_ (by (try simp) <;> omega) _))))) hb_14
  have c_14_p0_0 : w_14.cell? ⟨b_p0, 0, none⟩ = some (.slice a0 len0 cap0) := k_14_p0.cell 0
  have l_14_p0 := k_14_p0.lt
  have k_14_l1 : Blk w_14 (b_l1) 27 #[.slice (some ⟨g_3, 0, none⟩) zs.length c_3] := Blk.step (by (with_reducible (repeat (first | assumption | exact Blk.new' (by simp) | apply Blk.drewN | apply Blk.drew | apply Blk.alloc | (refine Blk.far ?_ (by (try simp) <;> omega) _))))) hb_14
  have c_14_l1_0 : w_14.cell? ⟨b_l1, 0, none⟩ = some (.slice (some ⟨g_3, 0, none⟩) zs.length c_3) := k_14_l1.cell 0
  have l_14_l1 := k_14_l1.lt
  have k_14_l2 : Blk w_14 (b_l2) 27 #[.slice (some ⟨g_5, 0, none⟩) len0 len0] := Blk.step (by (with_reducible (repeat (first | assumption | exact Blk.new' (by simp) | apply Blk.drewN | apply Blk.drew | apply Blk.alloc | (refine Blk.far ?_ (by (try simp) <;> omega) _))))) hb_14
  have c_14_l2_0 : w_14.cell? ⟨b_l2, 0, none⟩ = some (.slice (some ⟨g_5, 0, none⟩) len0 len0) := k_14_l2.cell 0
  have l_14_l2 := k_14_l2.lt
  have k_14_l3 : Blk w_14 (b_l3) 27 #[.slice (some ⟨g_7, 0, none⟩) zs.length c_7] := Blk.step (by (with_reducible (repeat (first | assumption | exact Blk.new' (by simp) | apply Blk.drewN | apply Blk.drew | apply Blk.alloc | (refine Blk.far ?_ (by (try simp) <;> omega) _))))) hb_14
  have c_14_l3_0 : w_14.cell? ⟨b_l3, 0, none⟩ = some (.slice (some ⟨g_7, 0, none⟩) zs.length c_7) := k_14_l3.cell 0
  have l_14_l3 := k_14_l3.lt
  have o_14_X3 : OwnC w_14 g_5 (len0) len0 (marksI (1) (len0)) := OwnC.step (by (with_reducible (repeat (first | assumption | apply OwnC.drewN | apply OwnC.drew | apply OwnC.alloc)))) hb_14
  have o_14_X4 : OwnC w_14 g_7 (zs.length) c_7 (marksI (1) (zs.length)) := OwnC.step (by (with_reducible (repeat (first | assumption | apply OwnC.drewN | apply OwnC.drew | apply OwnC.alloc)))) hb_14
  clear j_13 k_13_p0 c_13_p0_0 l_13_p0 k_13_l1 c_13_l1_0 l_13_l1 k_13_l2 c_13_l2_0 l_13_l2 k_13_l3 c_13_l3_0 l_13_l3 o_13_X3 o_13_X4 hb_13
  go_wp2_with fail
  refine (toStock_c a0 len0 cap0 (z0.take len0) _ (by omega) (by exact R0.out.below (In.below (IC.out.trans (by (repeat (first | exact In.refl _ | assumption | apply In.alloc | apply In.drewN | apply In.drew | (refine In.step ?_ (by assumption))))))) (Nat.le_refl _))).mono ?_
  rintro _ w_15 ⟨g_15, rfl, ho_15, hg_15, hb_15⟩
  have NE_X3_X5 : Hid (g_5 ≠ g_15) := Lib.hid (by have h1 := hg_15; (try simp at h1); have h2 := OwnC.lt o_14_X3; omega)
  have NE_X4_X5 : Hid (g_7 ≠ g_15) := Lib.hid (by have h1 := hg_15; (try simp at h1); have h2 := OwnC.lt o_14_X4; omega)
  have GX_X5 : Hid (w_4.heap.size ≤ g_15) := Lib.hid (by have h1 := hg_15; (try simp at h1); have h2 := In.size j_14; omega)
  have o_15_X5 : OwnC w_15 g_15 (len0) len0 (z0.take len0) := ho_15
  clear ho_15 hg_15
  have j_15 : In w_4.heap.size w_4 w_15 := In.step (by (repeat (first | exact In.refl _ | assumption | apply In.alloc | apply In.drewN | apply In.drew | (refine In.step ?_ (by assumption))))) hb_15
  have k_15_p0 : Blk w_15 (b_p0) 24 #[.slice a0 len0 cap0] := Blk.step (by (with_reducible (repeat (first | assumption | exact Blk.new' (by simp) | apply Blk.drewN | apply Blk.drew | apply Blk.alloc | (refine Blk.far ?_ (by (try simp) <;> omega) _))))) hb_15
  have c_15_p0_0 : w_15.cell? ⟨b_p0, 0, none⟩ = some (.slice a0 len0 cap0) := k_15_p0.cell 0
  have l_15_p0 := k_15_p0.lt
  have k_15_l1 : Blk w_15 (b_l1) 27 #[.slice (some ⟨g_3, 0, none⟩) zs.length c_3] := Blk.step (by (with_reducible (repeat (first | assumption | exact Blk.new' (by simp) | apply Blk.drewN | apply Blk.drew | apply Blk.alloc | (refine Blk.far ?_ (by (try simp) <;> omega) _))))) hb_15
  have c_15_l1_0 : w_15.cell? ⟨b_l1, 0, none⟩ = some (.slice (some ⟨g_3, 0, none⟩) zs.length c_3) := k_15_l1.cell 0
  have l_15_l1 := k_15_l1.lt
  have k_15_l2 : Blk w_15 (b_l2) 27 #[.slice (some ⟨g_5, 0, none⟩) len0 len0] := Blk.step (by (with_reducible (repeat (first | assumption | exact Blk.new' (by simp) | apply Blk.drewN | apply Blk.drew | apply Blk.alloc | (refine Blk.far ?_ (by (try simp) <;> omega) _))))) hb_15
  have c_15_l2_0 : w_15.cell? ⟨b_l2, 0, none⟩ = some (.slice (some ⟨g_5, 0, none⟩) len0 len0) := k_15_l2.cell 0
  have l_15_l2 := k_15_l2.lt
  have k_15_l3 : Blk w_15 (b_l3) 27 #[.slice (some ⟨g_7, 0, none⟩) zs.length c_7] := Blk.step (by (with_reducible (repeat (first | assumption | exact Blk.new' (by simp) | apply Blk.drewN | apply Blk.drew | apply Blk.alloc | (refine Blk.far ?_ (by (try simp) <;> omega) _))))) hb_15
  have c_15_l3_0 : w_15.cell? ⟨b_l3, 0, none⟩ = some (.slice (some ⟨g_7, 0, none⟩) zs.length c_7) := k_15_l3.cell 0
  have l_15_l3 := k_15_l3.lt
  have o_15_X3 : OwnC w_15 g_5 (len0) len0 (marksI (1) (len0)) := OwnC.step (by (with_reducible (repeat (first | assumption | apply OwnC.drewN | apply OwnC.drew | apply OwnC.alloc)))) hb_15
  have o_15_X4 : OwnC w_15 g_7 (zs.length) c_7 (marksI (1) (zs.length)) := OwnC.step (by (with_reducible (repeat (first | assumption | apply OwnC.drewN | apply OwnC.drew | apply OwnC.alloc)))) hb_15
  clear j_14 k_14_p0 c_14_p0_0 l_14_p0 k_14_l1 c_14_l1_0 l_14_l1 k_14_l2 c_14_l2_0 l_14_l2 k_14_l3 c_14_l3_0 l_14_l3 o_14_X3 o_14_X4 hb_14
  go_wp2_with fail
  refine (HiC.out ⟨g_15, 0, none⟩ (len0) _ (by exact OwnC.reads (by (with_reducible (repeat (first | assumption | apply OwnC.drewN | apply OwnC.drew | apply OwnC.alloc)))))).mono ?_
  rintro _ w_16 ⟨g_16, c_16, rfl, ho_16, hg_16, hb_16⟩
  have NE_X3_X6 : Hid (g_5 ≠ g_16) := Lib.hid (by have h1 := hg_16; (try simp at h1); have h2 := OwnC.lt o_15_X3; omega)
  have NE_X4_X6 : Hid (g_7 ≠ g_16) := Lib.hid (by have h1 := hg_16; (try simp at h1); have h2 := OwnC.lt o_15_X4; omega)
  have GX_X6 : Hid (w_4.heap.size ≤ g_16) := Lib.hid (by have h1 := hg_16; (try simp at h1); have h2 := In.size j_15; omega)
  have o_16_X6 : OwnC w_16 g_16 (zs.length) c_16 zs := ho_16
  clear ho_16 hg_16
  have j_16 : In w_4.heap.size w_4 w_16 := In.step (by (repeat (first | exact In.refl _ | assumption | apply In.alloc | apply In.drewN | apply In.drew | (refine In.step ?_ (by assumption))))) hb_16
  have k_16_p0 : Blk w_16 (b_p0) 24 #[.slice a0 len0 cap0] := Blk.step (by (with_reducible (repeat (first | assumption | exact Blk.new' (by simp) | apply Blk.drewN | apply Blk.drew | apply Blk.alloc | (refine Blk.far ?_ (by (try simp) <;> omega) _))))) hb_16
  have c_16_p0_0 : w_16.cell? ⟨b_p0, 0, none⟩ = some (.slice a0 len0 cap0) := k_16_p0.cell 0
  have l_16_p0 := k_16_p0.lt
  have k_16_l1 : Blk w_16 (b_l1) 27 #[.slice (some ⟨g_3, 0, none⟩) zs.length c_3] := Blk.step (by (with_reducible (repeat (first | assumption | exact Blk.new' (by simp) | apply Blk.drewN | apply Blk.drew | apply Blk.alloc | (refine Blk.far ?_ (by (try simp) <;> omega) _))))) hb_16
  have c_16_l1_0 : w_16.cell? ⟨b_l1, 0, none⟩ = some (.slice (some ⟨g_3, 0, none⟩) zs.length c_3) := k_16_l1.cell 0
  have l_16_l1 := k_16_l1.lt
  have k_16_l2 : Blk w_16 (b_l2) 27 #[.slice (some ⟨g_5, 0, none⟩) len0 len0] := Blk.step (by (with_reducible (repeat (first | assumption | exact Blk.new' (by simp) | apply Blk.drewN | apply Blk.drew | apply Blk.alloc | (refine Blk.far ?_ (by (try simp) <;> omega) _))))) hb_16
  have c_16_l2_0 : w_16.cell? ⟨b_l2, 0, none⟩ = some (.slice (some ⟨g_5, 0, none⟩) len0 len0) := k_16_l2.cell 0
  have l_16_l2 := k_16_l2.lt
  have k_16_l3 : Blk w_16 (b_l3) 27 #[.slice (some ⟨g_7, 0, none⟩) zs.length c_7] := Blk.step (by (with_reducible (repeat (first | assumption | exact Blk.new' (by simp) | apply Blk.drewN | apply Blk.drew | apply Blk.alloc | (refine Blk.far ?_ (by (try simp) <;> omega) _))))) hb_16
  have c_16_l3_0 : w_16.cell? ⟨b_l3, 0, none⟩ = some (.slice (some ⟨g_7, 0, none⟩) zs.length c_7) := k_16_l3.cell 0
  have l_16_l3 := k_16_l3.lt
  have o_16_X3 : OwnC w_16 g_5 (len0) len0 (marksI (1) (len0)) := OwnC.step (by (with_reducible (repeat (first | assumption | apply OwnC.drewN | apply OwnC.drew | apply OwnC.alloc)))) hb_16
  have o_16_X4 : OwnC w_16 g_7 (zs.length) c_7 (marksI (1) (zs.length)) := OwnC.step (by (with_reducible (repeat (first | assumption | apply OwnC.drewN | apply OwnC.drew | apply OwnC.alloc)))) hb_16
  clear j_15 k_15_p0 c_15_p0_0 l_15_p0 k_15_l1 c_15_l1_0 l_15_l1 k_15_l2 c_15_l2_0 l_15_l2 k_15_l3 c_15_l3_0 l_15_l3 o_15_X3 o_15_X4 o_15_X5 hb_15
  go_wp2_with fail
  obtain ⟨b_l4, hbx_l4⟩ : ∃ b, b = w_16.heap.size := ⟨_, rfl⟩
  rw [← hbx_l4]
  have hb_17 : Below w_16.heap.size w_16 (w_16.alloc (.cells #[.slice (some ⟨g_16, 0, none⟩) zs.length c_16] 27)) := (Below.refl _ _).alloc (Nat.le_refl _) _
  have kk_17 : Blk (w_16.alloc (.cells #[.slice (some ⟨g_16, 0, none⟩) zs.length c_16] 27)) b_l4 27 #[.slice (some ⟨g_16, 0, none⟩) zs.length c_16] := Blk.new' hbx_l4
  clear hbx_l4
  generalize (w_16.alloc (.cells #[.slice (some ⟨g_16, 0, none⟩) zs.length c_16] 27)) = w_17 at *
  have j_17 : In w_4.heap.size w_4 w_17 := In.step (by (repeat (first | exact In.refl _ | assumption | apply In.alloc | apply In.drewN | apply In.drew | (refine In.step ?_ (by assumption))))) hb_17
  have k_17_p0 : Blk w_17 (b_p0) 24 #[.slice a0 len0 cap0] := Blk.step (by (with_reducible (repeat (first | assumption | exact Blk.new' (by simp) | apply Blk.drewN | apply Blk.drew | apply Blk.alloc | (refine Blk.far ?_ (by (try simp) <;> omega) _))))) hb_17
  have c_17_p0_0 : w_17.cell? ⟨b_p0, 0, none⟩ = some (.slice a0 len0 cap0) := k_17_p0.cell 0
  have l_17_p0 := k_17_p0.lt
  have k_17_l1 : Blk w_17 (b_l1) 27 #[.slice (some ⟨g_3, 0, none⟩) zs.length c_3] := Blk.step (by (with_reducible (repeat (first | assumption | exact Blk.new' (by simp) | apply Blk.drewN | apply Blk.drew | apply Blk.alloc | (refine Blk.far ?_ (by (try simp) <;> omega) _))))) hb_17
  have c_17_l1_0 : w_17.cell? ⟨b_l1, 0, none⟩ = some (.slice (some ⟨g_3, 0, none⟩) zs.length c_3) := k_17_l1.cell 0
  have l_17_l1 := k_17_l1.lt
  have k_17_l2 : Blk w_17 (b_l2) 27 #[.slice (some ⟨g_5, 0, none⟩) len0 len0] := Blk.step (by (with_reducible (repeat (first | assumption | exact Blk.new' (by simp) | apply Blk.drewN | apply Blk.drew | apply Blk.alloc | (refine Blk.far ?_ (by (try simp) <;> omega) _))))) hb_17
  have c_17_l2_0 : w_17.cell? ⟨b_l2, 0, none⟩ = some (.slice (some ⟨g_5, 0, none⟩) len0 len0) := k_17_l2.cell 0
  have l_17_l2 := k_17_l2.lt
  have k_17_l3 : Blk w_17 (b_l3) 27 #[.slice (some ⟨g_7, 0, none⟩) zs.length c_7] := Blk.step (by (with_reducible (repeat (first | assumption | exact Blk.new' (by simp) | apply Blk.drewN | apply Blk.drew | apply Blk.alloc | (refine Blk.far ?_ (by (try simp) <;> omega) _))))) hb_17
  have c_17_l3_0 : w_17.cell? ⟨b_l3, 0, none⟩ = some (.slice (some ⟨g_7, 0, none⟩) zs.length c_7) := k_17_l3.cell 0
  have l_17_l3 := k_17_l3.lt
  have k_17_l4 : Blk w_17 (b_l4) 27 #[.slice (some ⟨g_16, 0, none⟩) zs.length c_16] := kk_17
  have c_17_l4_0 : w_17.cell? ⟨b_l4, 0, none⟩ = some (.slice (some ⟨g_16, 0, none⟩) zs.length c_16) := k_17_l4.cell 0
  have l_17_l4 := k_17_l4.lt
  have o_17_X3 : OwnC w_17 g_5 (len0) len0 (marksI (1) (len0)) := OwnC.step (by (with_reducible (repeat (first | assumption | apply OwnC.drewN | apply OwnC.drew | apply OwnC.alloc)))) hb_17
  have o_17_X4 : OwnC w_17 g_7 (zs.length) c_7 (marksI (1) (zs.length)) := OwnC.step (by (with_reducible (repeat (first | assumption | apply OwnC.drewN | apply OwnC.drew | apply OwnC.alloc)))) hb_17
  have o_17_X6 : OwnC w_17 g_16 (zs.length) c_16 zs := OwnC.step (by (with_reducible (repeat (first | assumption | apply OwnC.drewN | apply OwnC.drew | apply OwnC.alloc)))) hb_17
  clear j_16 k_16_p0 c_16_p0_0 l_16_p0 k_16_l1 c_16_l1_0 l_16_l1 k_16_l2 c_16_l2_0 l_16_l2 k_16_l3 c_16_l3_0 l_16_l3 o_16_X3 o_16_X4 o_16_X6 hb_16
  clear kk_17
  go_wp2_with fail
  refine (eqStock_c (some ⟨g_16, 0, none⟩) (some ⟨g_3, 0, none⟩) (zs.length) c_16 c_3 zs _ (by (try unfold maxLen); omega) (by exact OwnC.reads (by (with_reducible (repeat (first | assumption | apply OwnC.drewN | apply OwnC.drew | apply OwnC.alloc))))) (by exact HW.out.below (In.below (by (repeat (first | exact In.refl _ | assumption | apply In.alloc | apply In.drewN | apply In.drew | (refine In.step ?_ (by assumption)))))) (Nat.le_refl _))).mono ?_
  rintro _ w_18 ⟨rfl, hb_18⟩
  have j_18 : In w_4.heap.size w_4 w_18 := In.step (by (repeat (first | exact In.refl _ | assumption | apply In.alloc | apply In.drewN | apply In.drew | (refine In.step ?_ (by assumption))))) hb_18
  have k_18_p0 : Blk w_18 (b_p0) 24 #[.slice a0 len0 cap0] := Blk.step (by (with_reducible (repeat (first | assumption | exact Blk.new' (by simp) | apply Blk.drewN | apply Blk.drew | apply Blk.alloc | (refine Blk.far ?_ (by (try simp) <;> omega) _))))) hb_18
  have c_18_p0_0 : w_18.cell? ⟨b_p0, 0, none⟩ = some (.slice a0 len0 cap0) := k_18_p0.cell 0
  have l_18_p0 := k_18_p0.lt
  have k_18_l1 : Blk w_18 (b_l1) 27 #[.slice (some ⟨g_3, 0, none⟩) zs.length c_3] := Blk.step (by (with_reducible (repeat (first | assumption | exact Blk.new' (by simp) | apply Blk.drewN | apply Blk.drew | apply Blk.alloc | (refine Blk.far ?_ (by (try simp) <;> omega) _))))) hb_18
  have c_18_l1_0 : w_18.cell? ⟨b_l1, 0, none⟩ = some (.slice (some ⟨g_3, 0, none⟩) zs.length c_3) := k_18_l1.cell 0
  have l_18_l1 := k_18_l1.lt
  have k_18_l2 : Blk w_18 (b_l2) 27 #[.slice (some ⟨g_5, 0, none⟩) len0 len0] := Blk.step (by (with_reducible (repeat (first | assumption | exact Blk.new' (by simp) | apply Blk.drewN | apply Blk.drew | apply Blk.alloc | (refine Blk.far ?_ (by (try simp) <;> omega) _))))) hb_18
  have c_18_l2_0 : w_18.cell? ⟨b_l2, 0, none⟩ = some (.slice (some ⟨g_5, 0, none⟩) len0 len0) := k_18_l2.cell 0
  have l_18_l2 := k_18_l2.lt
  have k_18_l3 : Blk w_18 (b_l3) 27 #[.slice (some ⟨g_7, 0, none⟩) zs.length c_7] := Blk.step (by (with_reducible (repeat (first | assumption | exact Blk.new' (by simp) | apply Blk.drewN | apply Blk.drew | apply Blk.alloc | (refine Blk.far ?_ (by (try simp) <;> omega) _))))) hb_18
  have c_18_l3_0 : w_18.cell? ⟨b_l3, 0, none⟩ = some (.slice (some ⟨g_7, 0, none⟩) zs.length c_7) := k_18_l3.cell 0
  have l_18_l3 := k_18_l3.lt
  have k_18_l4 : Blk w_18 (b_l4) 27 #[.slice (some ⟨g_16, 0, none⟩) zs.length c_16] := Blk.step (by (with_reducible (repeat (first | assumption | exact Blk.new' (by simp) | apply Blk.drewN | apply Blk.drew | apply Blk.alloc | (refine Blk.far ?_ (by (try simp) <;> omega) _))))) hb_18
  have c_18_l4_0 : w_18.cell? ⟨b_l4, 0, none⟩ = some (.slice (some ⟨g_16, 0, none⟩) zs.length c_16) := k_18_l4.cell 0
  have l_18_l4 := k_18_l4.lt
  have o_18_X3 : OwnC w_18 g_5 (len0) len0 (marksI (1) (len0)) := OwnC.step (by (with_reducible (repeat (first | assumption | apply OwnC.drewN | apply OwnC.drew | apply OwnC.alloc)))) hb_18
  have o_18_X4 : OwnC w_18 g_7 (zs.length) c_7 (marksI (1) (zs.length)) := OwnC.step (by (with_reducible (repeat (first | assumption | apply OwnC.drewN | apply OwnC.drew | apply OwnC.alloc)))) hb_18
  have o_18_X6 : OwnC w_18 g_16 (zs.length) c_16 zs := OwnC.step (by (with_reducible (repeat (first | assumption | apply OwnC.drewN | apply OwnC.drew | apply OwnC.alloc)))) hb_18
  clear j_17 k_17_p0 c_17_p0_0 l_17_p0 k_17_l1 c_17_l1_0 l_17_l1 k_17_l2 c_17_l2_0 l_17_l2 k_17_l3 c_17_l3_0 l_17_l3 k_17_l4 c_17_l4_0 l_17_l4 o_17_X3 o_17_X4 o_17_X6 hb_17
  go_wp2_with fail
  refine (heldStock_c (some ⟨g_7, 0, none⟩) (zs.length) c_7 (1) _ (by omega) (by omega) (by exact OwnC.reads (by (with_reducible (repeat (first | assumption | apply OwnC.drewN | apply OwnC.drew | apply OwnC.alloc)))))).mono ?_
  rintro _ w_19 ⟨rfl, hb_19⟩
  have j_19 : In w_4.heap.size w_4 w_19 := In.step (by (repeat (first | exact In.refl _ | assumption | apply In.alloc | apply In.drewN | apply In.drew | (refine In.step ?_ (by assumption))))) hb_19
  have k_19_p0 : Blk w_19 (b_p0) 24 #[.slice a0 len0 cap0] := Blk.step (by (with_reducible (repeat (first | assumption | exact Blk.new' (by simp) | apply Blk.drewN | apply Blk.drew | apply Blk.alloc | (refine Blk.far ?_ (by (try simp) <;> omega) _))))) hb_19
  have c_19_p0_0 : w_19.cell? ⟨b_p0, 0, none⟩ = some (.slice a0 len0 cap0) := k_19_p0.cell 0
  have l_19_p0 := k_19_p0.lt
  have k_19_l1 : Blk w_19 (b_l1) 27 #[.slice (some ⟨g_3, 0, none⟩) zs.length c_3] := Blk.step (by (with_reducible (repeat (first | assumption | exact Blk.new' (by simp) | apply Blk.drewN | apply Blk.drew | apply Blk.alloc | (refine Blk.far ?_ (by (try simp) <;> omega) _))))) hb_19
  have c_19_l1_0 : w_19.cell? ⟨b_l1, 0, none⟩ = some (.slice (some ⟨g_3, 0, none⟩) zs.length c_3) := k_19_l1.cell 0
  have l_19_l1 := k_19_l1.lt
  have k_19_l2 : Blk w_19 (b_l2) 27 #[.slice (some ⟨g_5, 0, none⟩) len0 len0] := Blk.step (by (with_reducible (repeat (first | assumption | exact Blk.new' (by simp) | apply Blk.drewN | apply Blk.drew | apply Blk.alloc | (refine Blk.far ?_ (by (try simp) <;> omega) _))))) hb_19
  have c_19_l2_0 : w_19.cell? ⟨b_l2, 0, none⟩ = some (.slice (some ⟨g_5, 0, none⟩) len0 len0) := k_19_l2.cell 0
  have l_19_l2 := k_19_l2.lt
  have k_19_l3 : Blk w_19 (b_l3) 27 #[.slice (some ⟨g_7, 0, none⟩) zs.length c_7] := Blk.step (by (with_reducible (repeat (first | assumption | exact Blk.new' (by simp) | apply Blk.drewN | apply Blk.drew | apply Blk.alloc | (refine Blk.far ?_ (by (try simp) <;> omega) _))))) hb_19
  have c_19_l3_0 : w_19.cell? ⟨b_l3, 0, none⟩ = some (.slice (some ⟨g_7, 0, none⟩) zs.length c_7) := k_19_l3.cell 0
  have l_19_l3 := k_19_l3.lt
  have k_19_l4 : Blk w_19 (b_l4) 27 #[.slice (some ⟨g_16, 0, none⟩) zs.length c_16] := Blk.step (by (with_reducible (repeat (first | assumption | exact Blk.new' (by simp) | apply Blk.drewN | apply Blk.drew | apply Blk.alloc | (refine Blk.far ?_ (by (try simp) <;> omega) _))))) hb_19
  have c_19_l4_0 : w_19.cell? ⟨b_l4, 0, none⟩ = some (.slice (some ⟨g_16, 0, none⟩) zs.length c_16) := k_19_l4.cell 0
  have l_19_l4 := k_19_l4.lt
  have o_19_X3 : OwnC w_19 g_5 (len0) len0 (marksI (1) (len0)) := OwnC.step (by (with_reducible (repeat (first | assumption | apply OwnC.drewN | apply OwnC.drew | apply OwnC.alloc)))) hb_19
  have o_19_X4 : OwnC w_19 g_7 (zs.length) c_7 (marksI (1) (zs.length)) := OwnC.step (by (with_reducible (repeat (first | assumption | apply OwnC.drewN | apply OwnC.drew | apply OwnC.alloc)))) hb_19
  have o_19_X6 : OwnC w_19 g_16 (zs.length) c_16 zs := OwnC.step (by (with_reducible (repeat (first | assumption | apply OwnC.drewN | apply OwnC.drew | apply OwnC.alloc)))) hb_19
  clear j_18 k_18_p0 c_18_p0_0 l_18_p0 k_18_l1 c_18_l1_0 l_18_l1 k_18_l2 c_18_l2_0 l_18_l2 k_18_l3 c_18_l3_0 l_18_l3 k_18_l4 c_18_l4_0 l_18_l4 o_18_X3 o_18_X4 o_18_X6 hb_18
  go_wp2
  go_ret
  exact (show Val _ _ _ _ from Val.mk' rfl (IC.out.trans (by (repeat (first | exact In.refl _ | assumption | apply In.alloc | apply In.drewN | apply In.drew | (refine In.step ?_ (by assumption)))))))
end Go.Proofs.Ythadanmiomeehaa
