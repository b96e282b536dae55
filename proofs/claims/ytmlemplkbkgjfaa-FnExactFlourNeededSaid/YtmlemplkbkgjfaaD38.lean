/- Chapter 38: FlourNeeded. -/
import Derived.Test.YtmlemplkbkgjfaaC38
import Derived.Test.YtmlemplkbkgjfaaDd03
import Derived.Test.YtmlemplkbkgjfaaInv2
namespace Go.Proofs.Ytmlemplkbkgjfaa
open Go.ChangeShapes Go.WideShapes Go.ChangeAt Go.RowKit
set_option linter.unusedVariables false
set_option linter.unusedSimpArgs false
set_option maxHeartbeats 2000000

theorem firstD_at (p : Int → Bool) (k : Nat) : ∀ g : Int, p (g + k) = true → g ≤ firstD p k g ∧ firstD p k g ≤ g + k ∧ p (firstD p k g) = true := by
  induction k with
  | zero => intro g h; simp only [firstD]; refine ⟨by omega, by omega, ?_⟩; simpa using h
  | succ k ih =>
    intro g h
    by_cases e : p g = true
    · rw [firstD, if_pos e]; exact ⟨by omega, by omega, e⟩
    · rw [firstD, if_neg e]
      have := ih (g + 1) (by rw [show g + 1 + (k : Int) = g + ((k + 1 : Nat) : Int) from by omega]; exact h)
      exact ⟨by omega, by omega, this.2.2⟩
theorem dough_in (a l : Int) (h : loafB a l = true) : 10 ≤ doughV a l ∧ doughV a l ≤ 10000 := by
  have hl := loaf_in h
  have h1 := firstD_at (leastP a l) 10000 0 (by have := bk_top a l h; simp [leastP]; exact this)
  rw [doughV, if_pos h]
  have h2 : a ≤ bk (firstD (leastP a l) 10000 0) l := by simpa [leastP] using h1.2.2
  have h3 := bk_le (firstD (leastP a l) 10000 0) l h1.1 hl.2.2.1
  omega
def fnV (n : Nat) (xs : List Int) (m : Nat) (ys : List EventR) (a0 a1 a2 a3 a4 a5 a6 a7 a8 a9 a10 a11 : Int) (l : Int) : Int := if yOk n xs m ys a0 a1 a2 a3 a4 a5 a6 a7 a8 a9 a10 a11 && inB l 0 1000 then flourV a0 a1 a2 (doughV a3 a4 * l) else -1
theorem yOk_loaf {n : Nat} {xs : List Int} {m : Nat} {ys : List EventR} {a0 a1 a2 a3 a4 a5 a6 a7 a8 a9 a10 a11 : Int} (h : yOk n xs m ys a0 a1 a2 a3 a4 a5 a6 a7 a8 a9 a10 a11 = true) : loafB a3 a4 = true := by
  simp only [yOk, Bool.and_eq_true] at h
  exact h.2.2.1
def JIFls (w0 : World) (g : Nat) (n : Nat) (c : Nat) (h : Nat) (m : Nat) (d : Nat) (b_A : Nat) (a0 : Int) (a1 : Int) (a2 : Int) (a3 : Int) (a4 : Int) (a5 : Int) (a6 : Int) (a7 : Int) (a8 : Int) (a9 : Int) (a10 : Int) (a11 : Int) (l : Int) (D : Int) (a : Act) (w : World) : Prop := (∃ f : Nat → Value, a = ⟨#[Value.agg #[Value.slice (some { block := g, off := 0 }) n c, Value.int IntKind.i64 a0, Value.int IntKind.i64 a1, Value.int IntKind.i64 a2, Value.int IntKind.i64 a3, Value.int IntKind.i64 a4, Value.slice (some { block := h, off := 0 }) m d, Value.int IntKind.i64 a5, Value.int IntKind.i64 a6, Value.int IntKind.i64 a7, Value.int IntKind.i64 a8, Value.int IntKind.i64 a9, Value.int IntKind.i64 a10, Value.int IntKind.i64 a11], Value.int IntKind.i64 l, Value.pointer (some { block := b_A, off := 0 }), undef, f 4, Value.agg #[Value.slice (some { block := g, off := 0 }) n c, Value.int IntKind.i64 a0, Value.int IntKind.i64 a1, Value.int IntKind.i64 a2, Value.int IntKind.i64 a3, Value.int IntKind.i64 a4, Value.slice (some { block := h, off := 0 }) m d, Value.int IntKind.i64 a5, Value.int IntKind.i64 a6, Value.int IntKind.i64 a7, Value.int IntKind.i64 a8, Value.int IntKind.i64 a9, Value.int IntKind.i64 a10, Value.int IntKind.i64 a11], Value.bool true, Value.bool false, Value.bool false, Value.int IntKind.i64 l, Value.bool true, Value.bool false, Value.bool false, f 13, f 14, f 15, f 16, f 17, f 18, f 19, f 20], []⟩) ∧ In w0.heap.size w0 w
def JFFls (B : Nat) (g : Nat) (n : Nat) (c : Nat) (h : Nat) (m : Nat) (d : Nat) (b_A : Nat) (a0 : Int) (a1 : Int) (a2 : Int) (a3 : Int) (a4 : Int) (a5 : Int) (a6 : Int) (a7 : Int) (a8 : Int) (a9 : Int) (a10 : Int) (a11 : Int) (l : Int) (D : Int) : Nat → Act → World → Prop
  | 0, a, w => a.tmps[13]? = some (.pointer (some ⟨b_A, 1, none⟩))
  | 1, a, w => a.tmps[14]? = some (.agg #[.int .i64 a0, .int .i64 a1, .int .i64 a2])
  | 2, a, w => a.tmps[15]? = some (.pointer (some ⟨b_A, 4, none⟩))
  | 3, a, w => a.tmps[16]? = some (.agg #[.int .i64 a3, .int .i64 a4])
  | 4, a, w => a.tmps[17]? = some (.int .i64 D)
  | 5, a, w => a.tmps[18]? = some (.int .i64 l)
  | 6, a, w => a.tmps[19]? = some (.int .i64 (D * l))
  | 7, a, w => a.tmps[20]? = some (.int .i64 (flourV a0 a1 a2 (D * l)))
  | 8, a, w => a.tmps[4]? = some (.int .i64 (flourV a0 a1 a2 (D * l)))
  | _, _, _ => True
def JIFli (w0 : World) (g : Nat) (n : Nat) (c : Nat) (h : Nat) (m : Nat) (d : Nat) (b_A : Nat) (a0 : Int) (a1 : Int) (a2 : Int) (a3 : Int) (a4 : Int) (a5 : Int) (a6 : Int) (a7 : Int) (a8 : Int) (a9 : Int) (a10 : Int) (a11 : Int) (l : Int) (D : Int) (a : Act) (w : World) : Prop := (∃ f : Nat → Value, a = ⟨#[Value.agg #[Value.slice (some { block := g, off := 0 }) n c, Value.int IntKind.i64 a0, Value.int IntKind.i64 a1, Value.int IntKind.i64 a2, Value.int IntKind.i64 a3, Value.int IntKind.i64 a4, Value.slice (some { block := h, off := 0 }) m d, Value.int IntKind.i64 a5, Value.int IntKind.i64 a6, Value.int IntKind.i64 a7, Value.int IntKind.i64 a8, Value.int IntKind.i64 a9, Value.int IntKind.i64 a10, Value.int IntKind.i64 a11], Value.int IntKind.i64 l, Value.pointer (some { block := b_A, off := 0 }), undef, f 4, Value.agg #[Value.slice (some { block := g, off := 0 }) n c, Value.int IntKind.i64 a0, Value.int IntKind.i64 a1, Value.int IntKind.i64 a2, Value.int IntKind.i64 a3, Value.int IntKind.i64 a4, Value.slice (some { block := h, off := 0 }) m d, Value.int IntKind.i64 a5, Value.int IntKind.i64 a6, Value.int IntKind.i64 a7, Value.int IntKind.i64 a8, Value.int IntKind.i64 a9, Value.int IntKind.i64 a10, Value.int IntKind.i64 a11], Value.bool true, Value.bool false, Value.bool false, Value.int IntKind.i64 l, Value.bool true, Value.bool false, Value.bool false, f 13, f 14, f 15, f 16, f 17, f 18, f 19, f 20], []⟩) ∧ In w0.heap.size w0 w
def JFFli (B : Nat) (g : Nat) (n : Nat) (c : Nat) (h : Nat) (m : Nat) (d : Nat) (b_A : Nat) (a0 : Int) (a1 : Int) (a2 : Int) (a3 : Int) (a4 : Int) (a5 : Int) (a6 : Int) (a7 : Int) (a8 : Int) (a9 : Int) (a10 : Int) (a11 : Int) (l : Int) (D : Int) : Nat → Act → World → Prop
  | 0, a, w => a.tmps[13]? = some (.pointer (some ⟨b_A, 1, none⟩))
  | 1, a, w => a.tmps[14]? = some (.agg #[.int .i64 a0, .int .i64 a1, .int .i64 a2])
  | 2, a, w => a.tmps[15]? = some (.pointer (some ⟨b_A, 4, none⟩))
  | 3, a, w => a.tmps[16]? = some (.agg #[.int .i64 a3, .int .i64 a4])
  | 4, a, w => a.tmps[17]? = some (.int .i64 D)
  | 5, a, w => a.tmps[18]? = some (.int .i64 l)
  | 6, a, w => a.tmps[19]? = some (.int .i64 (D * l))
  | 7, a, w => a.tmps[20]? = some (.int .i64 (flourV a0 a1 a2 (D * l)))
  | 8, a, w => a.tmps[4]? = some (.int .i64 (flourV a0 a1 a2 (D * l)))
  | _, _, _ => True
theorem sFlourNeeded (g n c : Nat) (xs : List Int) (h m d : Nat) (ys : List EventR) (a0 a1 a2 a3 a4 a5 a6 a7 a8 a9 a10 a11 : Int) (l : Int) (w : World) (hn : (n : Int) ≤ 1048576) (hm : (m : Int) ≤ 1048576) (hx : ReadsI w (some ⟨g, 0, none⟩) n xs) (hy : ReadsEvent w (some ⟨h, 0, none⟩) m ys) : Calls Try.prog 53 #[.agg #[.slice (some ⟨g, 0, none⟩) n c, .int .i64 a0, .int .i64 a1, .int .i64 a2, .int .i64 a3, .int .i64 a4, .slice (some ⟨h, 0, none⟩) m d, .int .i64 a5, .int .i64 a6, .int .i64 a7, .int .i64 a8, .int .i64 a9, .int .i64 a10, .int .i64 a11], .int .i64 l] w (Val (.int .i64 (fnV n xs m ys a0 a1 a2 a3 a4 a5 a6 a7 a8 a9 a10 a11 l)) w) := by
  have HX := Lib.hid hx
  have HY := Lib.hid hy
  clear hx hy
  obtain ⟨b_A, hbx_A⟩ : ∃ b, b = w.heap.size := ⟨_, rfl⟩
  have kk_A : Blk (w.alloc (.cells #[.slice (some ⟨g, 0, none⟩) n c, .int .i64 a0, .int .i64 a1, .int .i64 a2, .int .i64 a3, .int .i64 a4, .slice (some ⟨h, 0, none⟩) m d, .int .i64 a5, .int .i64 a6, .int .i64 a7, .int .i64 a8, .int .i64 a9, .int .i64 a10, .int .i64 a11] 76)) b_A 76 #[.slice (some ⟨g, 0, none⟩) n c, .int .i64 a0, .int .i64 a1, .int .i64 a2, .int .i64 a3, .int .i64 a4, .slice (some ⟨h, 0, none⟩) m d, .int .i64 a5, .int .i64 a6, .int .i64 a7, .int .i64 a8, .int .i64 a9, .int .i64 a10, .int .i64 a11] := (Blk.new' (w := w) (t := 76) (cs := #[.slice (some ⟨g, 0, none⟩) n c, .int .i64 a0, .int .i64 a1, .int .i64 a2, .int .i64 a3, .int .i64 a4, .slice (some ⟨h, 0, none⟩) m d, .int .i64 a5, .int .i64 a6, .int .i64 a7, .int .i64 a8, .int .i64 a9, .int .i64 a10, .int .i64 a11]) (g := b_A) (by simp [hbx_A]))
  have hwb_A : w.heap.size ≤ b_A := by omega
  have hb_0 : Below w.heap.size w (w.alloc (.cells #[.slice (some ⟨g, 0, none⟩) n c, .int .i64 a0, .int .i64 a1, .int .i64 a2, .int .i64 a3, .int .i64 a4, .slice (some ⟨h, 0, none⟩) m d, .int .i64 a5, .int .i64 a6, .int .i64 a7, .int .i64 a8, .int .i64 a9, .int .i64 a10, .int .i64 a11] 76)) := by
    have h : In w.heap.size w (w.alloc (.cells #[.slice (some ⟨g, 0, none⟩) n c, .int .i64 a0, .int .i64 a1, .int .i64 a2, .int .i64 a3, .int .i64 a4, .slice (some ⟨h, 0, none⟩) m d, .int .i64 a5, .int .i64 a6, .int .i64 a7, .int .i64 a8, .int .i64 a9, .int .i64 a10, .int .i64 a11] 76)) := by (repeat (first | exact In.refl _ | assumption | apply In.alloc | apply In.drewN | apply In.drew | (refine In.step ?_ (by assumption))))
    exact h.below
  have hsz_0 : (w.alloc (.cells #[.slice (some ⟨g, 0, none⟩) n c, .int .i64 a0, .int .i64 a1, .int .i64 a2, .int .i64 a3, .int .i64 a4, .slice (some ⟨h, 0, none⟩) m d, .int .i64 a5, .int .i64 a6, .int .i64 a7, .int .i64 a8, .int .i64 a9, .int .i64 a10, .int .i64 a11] 76)).heap.size = b_A + 1 := by simp [hbx_A]
  go_enter Try.func53, Try.ntmps53
  go_wp2_with fail
  rw [← hbx_A]
  clear hbx_A
  generalize (w.alloc (.cells #[.slice (some ⟨g, 0, none⟩) n c, .int .i64 a0, .int .i64 a1, .int .i64 a2, .int .i64 a3, .int .i64 a4, .slice (some ⟨h, 0, none⟩) m d, .int .i64 a5, .int .i64 a6, .int .i64 a7, .int .i64 a8, .int .i64 a9, .int .i64 a10, .int .i64 a11] 76)) = w_0 at *
  have i_0 : In w.heap.size w w_0 := In.step (by (repeat (first | exact In.refl _ | assumption | apply In.alloc | apply In.drewN | apply In.drew | (refine In.step ?_ (by assumption))))) hb_0
  have k_0_A : Blk w_0 b_A 76 #[.slice (some ⟨g, 0, none⟩) n c, .int .i64 a0, .int .i64 a1, .int .i64 a2, .int .i64 a3, .int .i64 a4, .slice (some ⟨h, 0, none⟩) m d, .int .i64 a5, .int .i64 a6, .int .i64 a7, .int .i64 a8, .int .i64 a9, .int .i64 a10, .int .i64 a11] := kk_A
  have c_0_A_0 : w_0.cell? ⟨b_A, 0, none⟩ = some (.slice (some ⟨g, 0, none⟩) n c) := k_0_A.cell 0
  have c_0_A_1 : w_0.cell? ⟨b_A, 1, none⟩ = some (.int .i64 a0) := k_0_A.cell 1
  have c_0_A_2 : w_0.cell? ⟨b_A, 2, none⟩ = some (.int .i64 a1) := k_0_A.cell 2
  have c_0_A_3 : w_0.cell? ⟨b_A, 3, none⟩ = some (.int .i64 a2) := k_0_A.cell 3
  have c_0_A_4 : w_0.cell? ⟨b_A, 4, none⟩ = some (.int .i64 a3) := k_0_A.cell 4
  have c_0_A_5 : w_0.cell? ⟨b_A, 5, none⟩ = some (.int .i64 a4) := k_0_A.cell 5
  have c_0_A_6 : w_0.cell? ⟨b_A, 6, none⟩ = some (.slice (some ⟨h, 0, none⟩) m d) := k_0_A.cell 6
  have c_0_A_7 : w_0.cell? ⟨b_A, 7, none⟩ = some (.int .i64 a5) := k_0_A.cell 7
  have c_0_A_8 : w_0.cell? ⟨b_A, 8, none⟩ = some (.int .i64 a6) := k_0_A.cell 8
  have c_0_A_9 : w_0.cell? ⟨b_A, 9, none⟩ = some (.int .i64 a7) := k_0_A.cell 9
  have c_0_A_10 : w_0.cell? ⟨b_A, 10, none⟩ = some (.int .i64 a8) := k_0_A.cell 10
  have c_0_A_11 : w_0.cell? ⟨b_A, 11, none⟩ = some (.int .i64 a9) := k_0_A.cell 11
  have c_0_A_12 : w_0.cell? ⟨b_A, 12, none⟩ = some (.int .i64 a10) := k_0_A.cell 12
  have c_0_A_13 : w_0.cell? ⟨b_A, 13, none⟩ = some (.int .i64 a11) := k_0_A.cell 13
  have l_0_A := k_0_A.lt
  clear kk_A
  go_wp2_with fail
  refine (sBakeryOk g n c xs h m d ys a0 a1 a2 a3 a4 a5 a6 a7 a8 a9 a10 a11 _ hn hm (HX.out.in_ (by (repeat (first | exact In.refl _ | assumption | apply In.alloc | apply In.drewN | apply In.drew | (refine In.step ?_ (by assumption)))))) (HY.out.in_ (by (repeat (first | exact In.refl _ | assumption | apply In.alloc | apply In.drewN | apply In.drew | (refine In.step ?_ (by assumption))))))).mono ?_
  rintro _ w_1 ⟨rfl, hb_1⟩
  have i_1 : In w.heap.size w w_1 := In.step (by (repeat (first | exact In.refl _ | assumption | apply In.alloc | apply In.drewN | apply In.drew | (refine In.step ?_ (by assumption))))) hb_1
  have k_1_A : Blk w_1 b_A 76 #[.slice (some ⟨g, 0, none⟩) n c, .int .i64 a0, .int .i64 a1, .int .i64 a2, .int .i64 a3, .int .i64 a4, .slice (some ⟨h, 0, none⟩) m d, .int .i64 a5, .int .i64 a6, .int .i64 a7, .int .i64 a8, .int .i64 a9, .int .i64 a10, .int .i64 a11] := Blk.step (by (with_reducible (repeat (first | assumption | exact Blk.new' (by simp) | apply Blk.drewN | apply Blk.drew | apply Blk.alloc | (refine Blk.far ?_ (by (try simp) <;> omega) _))))) hb_1
  have c_1_A_0 : w_1.cell? ⟨b_A, 0, none⟩ = some (.slice (some ⟨g, 0, none⟩) n c) := k_1_A.cell 0
  have c_1_A_1 : w_1.cell? ⟨b_A, 1, none⟩ = some (.int .i64 a0) := k_1_A.cell 1
  have c_1_A_2 : w_1.cell? ⟨b_A, 2, none⟩ = some (.int .i64 a1) := k_1_A.cell 2
  have c_1_A_3 : w_1.cell? ⟨b_A, 3, none⟩ = some (.int .i64 a2) := k_1_A.cell 3
  have c_1_A_4 : w_1.cell? ⟨b_A, 4, none⟩ = some (.int .i64 a3) := k_1_A.cell 4
  have c_1_A_5 : w_1.cell? ⟨b_A, 5, none⟩ = some (.int .i64 a4) := k_1_A.cell 5
  have c_1_A_6 : w_1.cell? ⟨b_A, 6, none⟩ = some (.slice (some ⟨h, 0, none⟩) m d) := k_1_A.cell 6
  have c_1_A_7 : w_1.cell? ⟨b_A, 7, none⟩ = some (.int .i64 a5) := k_1_A.cell 7
  have c_1_A_8 : w_1.cell? ⟨b_A, 8, none⟩ = some (.int .i64 a6) := k_1_A.cell 8
  have c_1_A_9 : w_1.cell? ⟨b_A, 9, none⟩ = some (.int .i64 a7) := k_1_A.cell 9
  have c_1_A_10 : w_1.cell? ⟨b_A, 10, none⟩ = some (.int .i64 a8) := k_1_A.cell 10
  have c_1_A_11 : w_1.cell? ⟨b_A, 11, none⟩ = some (.int .i64 a9) := k_1_A.cell 11
  have c_1_A_12 : w_1.cell? ⟨b_A, 12, none⟩ = some (.int .i64 a10) := k_1_A.cell 12
  have c_1_A_13 : w_1.cell? ⟨b_A, 13, none⟩ = some (.int .i64 a11) := k_1_A.cell 13
  have l_1_A := k_1_A.lt
  clear i_0 k_0_A c_0_A_0 c_0_A_1 c_0_A_2 c_0_A_3 c_0_A_4 c_0_A_5 c_0_A_6 c_0_A_7 c_0_A_8 c_0_A_9 c_0_A_10 c_0_A_11 c_0_A_12 c_0_A_13 l_0_A hb_0
  cases h1 : yOk n xs m ys a0 a1 a2 a3 a4 a5 a6 a7 a8 a9 a10 a11
  · have HV : Hid (fnV n xs m ys a0 a1 a2 a3 a4 a5 a6 a7 a8 a9 a10 a11 l = -1) := Lib.hid (by simp [fnV, h1])
    go_wp2
    go_ret
    exact Val.mk' (v_int HV.out.symm) (by (repeat (first | exact In.refl _ | assumption | apply In.alloc | apply In.drewN | apply In.drew | (refine In.step ?_ (by assumption)))))
  go_wp2_with fail
  refine (sIn l 0 1000 _).mono ?_
  rintro _ _ ⟨rfl, rfl⟩
  cases h2 : inB l 0 1000
  · have HV : Hid (fnV n xs m ys a0 a1 a2 a3 a4 a5 a6 a7 a8 a9 a10 a11 l = -1) := Lib.hid (by simp [fnV, h1, h2])
    go_wp2
    go_ret
    exact Val.mk' (v_int HV.out.symm) (by (repeat (first | exact In.refl _ | assumption | apply In.alloc | apply In.drewN | apply In.drew | (refine In.step ?_ (by assumption)))))
  have HV : Hid (fnV n xs m ys a0 a1 a2 a3 a4 a5 a6 a7 a8 a9 a10 a11 l = flourV a0 a1 a2 (doughV a3 a4 * l)) := Lib.hid (by simp [fnV, h1, h2])
  have hd := dough_in a3 a4 (yOk_loaf h1)
  have hl := inB_tt h2
  have hmul := mul_in (a := doughV a3 a4) (b := l) (A := 10000) (B := 1000) (by omega) hd.2 hl.1 hl.2
  have HDF := Lib.hid (fun W => sDoughFor a3 a4 W)
  generalize doughV a3 a4 = D at *
  have hw1 : wrap64 (D * l) = D * l := w64 (by omega)
  have hw2 : IntKind.i64.wrap (D * l) = D * l := IntWalk.i64_in _ (by omega)
  clear hmul hd hl
  go_wp2_with fail
  obtain ⟨B_1, hB_1⟩ : ∃ B, B = w_1.heap.size := ⟨_, rfl⟩
  have hBl_1 : B_1 ≤ w_1.heap.size := by omega
  have hBg_1 : w_1.heap.size ≤ B_1 := by omega
  clear hB_1
  refine wp_region_facts2 (JIFls w_1 g n c h m d b_A a0 a1 a2 a3 a4 a5 a6 a7 a8 a9 a10 a11 l D) (JFFls B_1 g n c h m d b_A a0 a1 a2 a3 a4 a5 a6 a7 a8 a9 a10 a11 l D) (fun j => j == 8) (fun k j => (k == 1 && (j == 0)) || (k == 3 && (j == 2)) || (k == 4 && (j == 3)) || (k == 6 && (j == 4 || j == 5)) || (k == 7 && (j == 1 || j == 6)) || (k == 8 && (j == 7))) (by kernel_rfl) (by kernel_rfl) ⟨⟨fun j => if j = 4 then Value.int IntKind.i64 0 else undef, rfl⟩, (In.refl _).drew⟩ ?_ ?_
  · intro a v1 i o ho hI haf
    obtain ⟨⟨f, rfl⟩, hin⟩ := hI
    have kv_A : Blk v1 b_A 76 #[.slice (some ⟨g, 0, none⟩) n c, .int .i64 a0, .int .i64 a1, .int .i64 a2, .int .i64 a3, .int .i64 a4, .slice (some ⟨h, 0, none⟩) m d, .int .i64 a5, .int .i64 a6, .int .i64 a7, .int .i64 a8, .int .i64 a9, .int .i64 a10, .int .i64 a11] := Blk.step k_1_A hin.below
    have cv_A_0 := kv_A.cell 0
    have cv_A_1 := kv_A.cell 1
    have cv_A_2 := kv_A.cell 2
    have cv_A_3 := kv_A.cell 3
    have cv_A_4 := kv_A.cell 4
    have cv_A_5 := kv_A.cell 5
    have cv_A_6 := kv_A.cell 6
    have cv_A_7 := kv_A.cell 7
    have cv_A_8 := kv_A.cell 8
    have cv_A_9 := kv_A.cell 9
    have cv_A_10 := kv_A.cell 10
    have cv_A_11 := kv_A.cell 11
    have cv_A_12 := kv_A.cell 12
    have cv_A_13 := kv_A.cell 13
    have hi : i < 9 := by
      rcases Nat.lt_or_ge i 9 with h | h
      · exact h
      · simp [h] at ho
    suffices H : ∀ K : Act → World → Prop, (∀ a' w', ((JIFls w_1 g n c h m d b_A a0 a1 a2 a3 a4 a5 a6 a7 a8 a9 a10 a11 l D) a' w' ∧ (JFFls B_1 g n c h m d b_A a0 a1 a2 a3 a4 a5 a6 a7 a8 a9 a10 a11 l D) i a' w' ∧ ∀ j, j ≠ i → waitsT _ 6 j i = false → ((fun j => j == 8) j || usesB _ (fun k j => (k == 1 && (j == 0)) || (k == 3 && (j == 2)) || (k == 4 && (j == 3)) || (k == 6 && (j == 4 || j == 5)) || (k == 7 && (j == 1 || j == 6)) || (k == 8 && (j == 7))) i j) = true → (JFFls B_1 g n c h m d b_A a0 a1 a2 a3 a4 a5 a6 a7 a8 a9 a10 a11 l D) j ⟨#[Value.agg #[Value.slice (some { block := g, off := 0 }) n c, Value.int IntKind.i64 a0, Value.int IntKind.i64 a1, Value.int IntKind.i64 a2, Value.int IntKind.i64 a3, Value.int IntKind.i64 a4, Value.slice (some { block := h, off := 0 }) m d, Value.int IntKind.i64 a5, Value.int IntKind.i64 a6, Value.int IntKind.i64 a7, Value.int IntKind.i64 a8, Value.int IntKind.i64 a9, Value.int IntKind.i64 a10, Value.int IntKind.i64 a11], Value.int IntKind.i64 l, Value.pointer (some { block := b_A, off := 0 }), undef, f 4, Value.agg #[Value.slice (some { block := g, off := 0 }) n c, Value.int IntKind.i64 a0, Value.int IntKind.i64 a1, Value.int IntKind.i64 a2, Value.int IntKind.i64 a3, Value.int IntKind.i64 a4, Value.slice (some { block := h, off := 0 }) m d, Value.int IntKind.i64 a5, Value.int IntKind.i64 a6, Value.int IntKind.i64 a7, Value.int IntKind.i64 a8, Value.int IntKind.i64 a9, Value.int IntKind.i64 a10, Value.int IntKind.i64 a11], Value.bool true, Value.bool false, Value.bool false, Value.int IntKind.i64 l, Value.bool true, Value.bool false, Value.bool false, f 13, f 14, f 15, f 16, f 17, f 18, f 19, f 20], []⟩ v1 → (JFFls B_1 g n c h m d b_A a0 a1 a2 a3 a4 a5 a6 a7 a8 a9 a10 a11 l D) j a' w') → K a' w') → wpOp _ _ _ i K ⟨#[Value.agg #[Value.slice (some { block := g, off := 0 }) n c, Value.int IntKind.i64 a0, Value.int IntKind.i64 a1, Value.int IntKind.i64 a2, Value.int IntKind.i64 a3, Value.int IntKind.i64 a4, Value.slice (some { block := h, off := 0 }) m d, Value.int IntKind.i64 a5, Value.int IntKind.i64 a6, Value.int IntKind.i64 a7, Value.int IntKind.i64 a8, Value.int IntKind.i64 a9, Value.int IntKind.i64 a10, Value.int IntKind.i64 a11], Value.int IntKind.i64 l, Value.pointer (some { block := b_A, off := 0 }), undef, f 4, Value.agg #[Value.slice (some { block := g, off := 0 }) n c, Value.int IntKind.i64 a0, Value.int IntKind.i64 a1, Value.int IntKind.i64 a2, Value.int IntKind.i64 a3, Value.int IntKind.i64 a4, Value.slice (some { block := h, off := 0 }) m d, Value.int IntKind.i64 a5, Value.int IntKind.i64 a6, Value.int IntKind.i64 a7, Value.int IntKind.i64 a8, Value.int IntKind.i64 a9, Value.int IntKind.i64 a10, Value.int IntKind.i64 a11], Value.bool true, Value.bool false, Value.bool false, Value.int IntKind.i64 l, Value.bool true, Value.bool false, Value.bool false, f 13, f 14, f 15, f 16, f 17, f 18, f 19, f 20], []⟩ v1 from H _ fun _ _ h => h
    intro K hK
    rcases (by omega : i = 0 ∨ i = 1 ∨ i = 2 ∨ i = 3 ∨ i = 4 ∨ i = 5 ∨ i = 6 ∨ i = 7 ∨ i = 8) with rfl | rfl | rfl | rfl | rfl | rfl | rfl | rfl | rfl
    · obtain rfl := Option.some.inj ho
      refine wpOp_plain rfl rfl ?_
      unfold Oper.wp
      go_simp
      exact hK _ _ ⟨⟨⟨updf f 13 (.pointer (some ⟨b_A, 1, none⟩)), rfl⟩, hin⟩, rfl, fun j hj hw hu hf => by
          rcases j with _ | _ | _ | _ | _ | _ | _ | _ | _ | j
          · exact absurd rfl hj
          · first | (have h9 : _ = _ := hf; exact h9) | rfl
          · first | (have h9 : _ = _ := hf; exact h9) | rfl
          · first | (have h9 : _ = _ := hf; exact h9) | rfl
          · first | (have h9 : _ = _ := hf; exact h9) | rfl
          · first | (have h9 : _ = _ := hf; exact h9) | rfl
          · first | (have h9 : _ = _ := hf; exact h9) | rfl
          · first | (have h9 : _ = _ := hf; exact h9) | rfl
          · first | (have h9 : _ = _ := hf; exact h9) | rfl
          · exact trivial⟩
    · obtain rfl := Option.some.inj ho
      have f0 := haf { on := 0, ground := .data } (by simp) rfl rfl
      have f0 : _ = _ := Option.some.inj f0
      refine wpOp_plain rfl rfl ?_
      unfold Oper.wp
      go_simp
      exact hK _ _ ⟨⟨⟨updf f 14 (.agg #[.int .i64 a0, .int .i64 a1, .int .i64 a2]), rfl⟩, hin⟩, rfl, fun j hj hw hu hf => by
          rcases j with _ | _ | _ | _ | _ | _ | _ | _ | _ | j
          · first | (have h9 : _ = _ := hf; exact h9) | rfl
          · exact absurd rfl hj
          · first | (have h9 : _ = _ := hf; exact h9) | rfl
          · first | (have h9 : _ = _ := hf; exact h9) | rfl
          · first | (have h9 : _ = _ := hf; exact h9) | rfl
          · first | (have h9 : _ = _ := hf; exact h9) | rfl
          · first | (have h9 : _ = _ := hf; exact h9) | rfl
          · first | (have h9 : _ = _ := hf; exact h9) | rfl
          · first | (have h9 : _ = _ := hf; exact h9) | rfl
          · exact trivial⟩
    · obtain rfl := Option.some.inj ho
      refine wpOp_plain rfl rfl ?_
      unfold Oper.wp
      go_simp
      exact hK _ _ ⟨⟨⟨updf f 15 (.pointer (some ⟨b_A, 4, none⟩)), rfl⟩, hin⟩, rfl, fun j hj hw hu hf => by
          rcases j with _ | _ | _ | _ | _ | _ | _ | _ | _ | j
          · first | (have h9 : _ = _ := hf; exact h9) | rfl
          · first | (have h9 : _ = _ := hf; exact h9) | rfl
          · exact absurd rfl hj
          · first | (have h9 : _ = _ := hf; exact h9) | rfl
          · first | (have h9 : _ = _ := hf; exact h9) | rfl
          · first | (have h9 : _ = _ := hf; exact h9) | rfl
          · first | (have h9 : _ = _ := hf; exact h9) | rfl
          · first | (have h9 : _ = _ := hf; exact h9) | rfl
          · first | (have h9 : _ = _ := hf; exact h9) | rfl
          · exact trivial⟩
    · obtain rfl := Option.some.inj ho
      have f2 := haf { on := 2, ground := .data } (by simp) rfl rfl
      have f2 : _ = _ := Option.some.inj f2
      refine wpOp_plain rfl rfl ?_
      unfold Oper.wp
      go_simp
      exact hK _ _ ⟨⟨⟨updf f 16 (.agg #[.int .i64 a3, .int .i64 a4]), rfl⟩, hin⟩, rfl, fun j hj hw hu hf => by
          rcases j with _ | _ | _ | _ | _ | _ | _ | _ | _ | j
          · first | (have h9 : _ = _ := hf; exact h9) | rfl
          · first | (have h9 : _ = _ := hf; exact h9) | rfl
          · first | (have h9 : _ = _ := hf; exact h9) | rfl
          · exact absurd rfl hj
          · first | (have h9 : _ = _ := hf; exact h9) | rfl
          · first | (have h9 : _ = _ := hf; exact h9) | rfl
          · first | (have h9 : _ = _ := hf; exact h9) | rfl
          · first | (have h9 : _ = _ := hf; exact h9) | rfl
          · first | (have h9 : _ = _ := hf; exact h9) | rfl
          · exact trivial⟩
    · obtain rfl := Option.some.inj ho
      have f3 := haf { on := 3, ground := .data } (by simp) rfl rfl
      have f3 : _ = _ := Option.some.inj f3
      refine wpOp_plain rfl rfl ?_
      unfold Oper.wp
      go_simp
      refine (HDF.out _).mono ?_
      rintro _ v2 ⟨rfl, hb2⟩
      exact hK _ _ ⟨⟨⟨updf f 17 (.int .i64 D), rfl⟩, hin.step hb2⟩, rfl, fun j hj hw hu hf => by
          rcases j with _ | _ | _ | _ | _ | _ | _ | _ | _ | j
          · first | (have h9 : _ = _ := hf; exact h9) | rfl
          · first | (have h9 : _ = _ := hf; exact h9) | rfl
          · first | (have h9 : _ = _ := hf; exact h9) | rfl
          · first | (have h9 : _ = _ := hf; exact h9) | rfl
          · exact absurd rfl hj
          · first | (have h9 : _ = _ := hf; exact h9) | rfl
          · first | (have h9 : _ = _ := hf; exact h9) | rfl
          · first | (have h9 : _ = _ := hf; exact h9) | rfl
          · first | (have h9 : _ = _ := hf; exact h9) | rfl
          · exact trivial⟩
    · obtain rfl := Option.some.inj ho
      refine wpOp_plain rfl rfl ?_
      unfold Oper.wp
      go_simp
      exact hK _ _ ⟨⟨⟨updf f 18 (.int .i64 l), rfl⟩, hin⟩, rfl, fun j hj hw hu hf => by
          rcases j with _ | _ | _ | _ | _ | _ | _ | _ | _ | j
          · first | (have h9 : _ = _ := hf; exact h9) | rfl
          · first | (have h9 : _ = _ := hf; exact h9) | rfl
          · first | (have h9 : _ = _ := hf; exact h9) | rfl
          · first | (have h9 : _ = _ := hf; exact h9) | rfl
          · first | (have h9 : _ = _ := hf; exact h9) | rfl
          · exact absurd rfl hj
          · first | (have h9 : _ = _ := hf; exact h9) | rfl
          · first | (have h9 : _ = _ := hf; exact h9) | rfl
          · first | (have h9 : _ = _ := hf; exact h9) | rfl
          · exact trivial⟩
    · obtain rfl := Option.some.inj ho
      have f4 := haf { on := 4, ground := .data } (by simp) rfl rfl
      have f4 : _ = _ := Option.some.inj f4
      have f5 := haf { on := 5, ground := .data } (by simp) rfl rfl
      have f5 : _ = _ := Option.some.inj f5
      refine wpOp_plain rfl rfl ?_
      unfold Oper.wp
      go_simp
      exact hK _ _ ⟨⟨⟨updf f 19 (.int .i64 (D * l)), rfl⟩, hin⟩, rfl, fun j hj hw hu hf => by
          rcases j with _ | _ | _ | _ | _ | _ | _ | _ | _ | j
          · first | (have h9 : _ = _ := hf; exact h9) | rfl
          · first | (have h9 : _ = _ := hf; exact h9) | rfl
          · first | (have h9 : _ = _ := hf; exact h9) | rfl
          · first | (have h9 : _ = _ := hf; exact h9) | rfl
          · first | (have h9 : _ = _ := hf; exact h9) | rfl
          · first | (have h9 : _ = _ := hf; exact h9) | rfl
          · exact absurd rfl hj
          · first | (have h9 : _ = _ := hf; exact h9) | rfl
          · first | (have h9 : _ = _ := hf; exact h9) | rfl
          · exact trivial⟩
    · obtain rfl := Option.some.inj ho
      have f1 := haf { on := 1, ground := .data } (by simp) rfl rfl
      have f1 : _ = _ := Option.some.inj f1
      have f6 := haf { on := 6, ground := .data } (by simp) rfl rfl
      have f6 : _ = _ := Option.some.inj f6
      refine wpOp_plain rfl rfl ?_
      unfold Oper.wp
      go_simp
      refine (sFlourFor a0 a1 a2 (D * l) _).mono ?_
      rintro _ v2 ⟨rfl, hb2⟩
      exact hK _ _ ⟨⟨⟨updf f 20 (.int .i64 (flourV a0 a1 a2 (D * l))), rfl⟩, hin.step hb2⟩, rfl, fun j hj hw hu hf => by
          rcases j with _ | _ | _ | _ | _ | _ | _ | _ | _ | j
          · first | (have h9 : _ = _ := hf; exact h9) | rfl
          · first | (have h9 : _ = _ := hf; exact h9) | rfl
          · first | (have h9 : _ = _ := hf; exact h9) | rfl
          · first | (have h9 : _ = _ := hf; exact h9) | rfl
          · first | (have h9 : _ = _ := hf; exact h9) | rfl
          · first | (have h9 : _ = _ := hf; exact h9) | rfl
          · first | (have h9 : _ = _ := hf; exact h9) | rfl
          · exact absurd rfl hj
          · first | (have h9 : _ = _ := hf; exact h9) | rfl
          · exact trivial⟩
    · obtain rfl := Option.some.inj ho
      have f7 := haf { on := 7, ground := .data } (by simp) rfl rfl
      have f7 : _ = _ := Option.some.inj f7
      refine wpOp_plain rfl rfl ?_
      unfold Oper.wp
      go_simp
      exact hK _ _ ⟨⟨⟨updf f 4 (.int .i64 (flourV a0 a1 a2 (D * l))), rfl⟩, hin⟩, rfl, fun j hj hw hu hf => by
          rcases j with _ | _ | _ | _ | _ | _ | _ | _ | _ | j
          · first | (have h9 : _ = _ := hf; exact h9) | rfl
          · first | (have h9 : _ = _ := hf; exact h9) | rfl
          · first | (have h9 : _ = _ := hf; exact h9) | rfl
          · first | (have h9 : _ = _ := hf; exact h9) | rfl
          · first | (have h9 : _ = _ := hf; exact h9) | rfl
          · first | (have h9 : _ = _ := hf; exact h9) | rfl
          · first | (have h9 : _ = _ := hf; exact h9) | rfl
          · first | (have h9 : _ = _ := hf; exact h9) | rfl
          · exact absurd rfl hj
          · exact trivial⟩
  intro a w_2 hI hF
  obtain ⟨⟨hFls, rfl⟩, hn_2⟩ := hI
  have hb_2 := hn_2.below
  have he_2_4 : hFls 4 = _ := Option.some.inj (hF 8 (by decide) (by decide))
  clear hF
  rw [he_2_4]
  clear he_2_4
  have i_2 : In w.heap.size w w_2 := In.step (by (repeat (first | exact In.refl _ | assumption | apply In.alloc | apply In.drewN | apply In.drew | (refine In.step ?_ (by assumption))))) hb_2
  have k_2_A : Blk w_2 b_A 76 #[.slice (some ⟨g, 0, none⟩) n c, .int .i64 a0, .int .i64 a1, .int .i64 a2, .int .i64 a3, .int .i64 a4, .slice (some ⟨h, 0, none⟩) m d, .int .i64 a5, .int .i64 a6, .int .i64 a7, .int .i64 a8, .int .i64 a9, .int .i64 a10, .int .i64 a11] := Blk.step (by (with_reducible (repeat (first | assumption | exact Blk.new' (by simp) | apply Blk.drewN | apply Blk.drew | apply Blk.alloc | (refine Blk.far ?_ (by (try simp) <;> omega) _))))) hb_2
  have c_2_A_0 : w_2.cell? ⟨b_A, 0, none⟩ = some (.slice (some ⟨g, 0, none⟩) n c) := k_2_A.cell 0
  have c_2_A_1 : w_2.cell? ⟨b_A, 1, none⟩ = some (.int .i64 a0) := k_2_A.cell 1
  have c_2_A_2 : w_2.cell? ⟨b_A, 2, none⟩ = some (.int .i64 a1) := k_2_A.cell 2
  have c_2_A_3 : w_2.cell? ⟨b_A, 3, none⟩ = some (.int .i64 a2) := k_2_A.cell 3
  have c_2_A_4 : w_2.cell? ⟨b_A, 4, none⟩ = some (.int .i64 a3) := k_2_A.cell 4
  have c_2_A_5 : w_2.cell? ⟨b_A, 5, none⟩ = some (.int .i64 a4) := k_2_A.cell 5
  have c_2_A_6 : w_2.cell? ⟨b_A, 6, none⟩ = some (.slice (some ⟨h, 0, none⟩) m d) := k_2_A.cell 6
  have c_2_A_7 : w_2.cell? ⟨b_A, 7, none⟩ = some (.int .i64 a5) := k_2_A.cell 7
  have c_2_A_8 : w_2.cell? ⟨b_A, 8, none⟩ = some (.int .i64 a6) := k_2_A.cell 8
  have c_2_A_9 : w_2.cell? ⟨b_A, 9, none⟩ = some (.int .i64 a7) := k_2_A.cell 9
  have c_2_A_10 : w_2.cell? ⟨b_A, 10, none⟩ = some (.int .i64 a8) := k_2_A.cell 10
  have c_2_A_11 : w_2.cell? ⟨b_A, 11, none⟩ = some (.int .i64 a9) := k_2_A.cell 11
  have c_2_A_12 : w_2.cell? ⟨b_A, 12, none⟩ = some (.int .i64 a10) := k_2_A.cell 12
  have c_2_A_13 : w_2.cell? ⟨b_A, 13, none⟩ = some (.int .i64 a11) := k_2_A.cell 13
  have l_2_A := k_2_A.lt
  clear i_1 k_1_A c_1_A_0 c_1_A_1 c_1_A_2 c_1_A_3 c_1_A_4 c_1_A_5 c_1_A_6 c_1_A_7 c_1_A_8 c_1_A_9 c_1_A_10 c_1_A_11 c_1_A_12 c_1_A_13 l_1_A hb_1
  clear hn_2
  clear hBl_1 hBg_1
  go_wp2
  go_ret
  exact Val.mk' (v_int HV.out.symm) (by (repeat (first | exact In.refl _ | assumption | apply In.alloc | apply In.drewN | apply In.drew | (refine In.step ?_ (by assumption)))))
theorem iFlourNeeded (g n c : Nat) (xs : List Int) (h m d : Nat) (ys : List EventR) (a0 a1 a2 a3 a4 a5 a6 a7 a8 a9 a10 a11 : Int) (l : Int) (w : World) (hn : (n : Int) ≤ 1048576) (hm : (m : Int) ≤ 1048576) (hx : ReadsI w (some ⟨g, 0, none⟩) n xs) (hy : ReadsEvent w (some ⟨h, 0, none⟩) m ys) : Calls Try.prog 54 #[.agg #[.slice (some ⟨g, 0, none⟩) n c, .int .i64 a0, .int .i64 a1, .int .i64 a2, .int .i64 a3, .int .i64 a4, .slice (some ⟨h, 0, none⟩) m d, .int .i64 a5, .int .i64 a6, .int .i64 a7, .int .i64 a8, .int .i64 a9, .int .i64 a10, .int .i64 a11], .int .i64 l] w (Val (.int .i64 (fnV n xs m ys a0 a1 a2 a3 a4 a5 a6 a7 a8 a9 a10 a11 l)) w) := by
  have HX := Lib.hid hx
  have HY := Lib.hid hy
  clear hx hy
  obtain ⟨b_A, hbx_A⟩ : ∃ b, b = w.heap.size := ⟨_, rfl⟩
  have kk_A : Blk (w.alloc (.cells #[.slice (some ⟨g, 0, none⟩) n c, .int .i64 a0, .int .i64 a1, .int .i64 a2, .int .i64 a3, .int .i64 a4, .slice (some ⟨h, 0, none⟩) m d, .int .i64 a5, .int .i64 a6, .int .i64 a7, .int .i64 a8, .int .i64 a9, .int .i64 a10, .int .i64 a11] 76)) b_A 76 #[.slice (some ⟨g, 0, none⟩) n c, .int .i64 a0, .int .i64 a1, .int .i64 a2, .int .i64 a3, .int .i64 a4, .slice (some ⟨h, 0, none⟩) m d, .int .i64 a5, .int .i64 a6, .int .i64 a7, .int .i64 a8, .int .i64 a9, .int .i64 a10, .int .i64 a11] := (Blk.new' (w := w) (t := 76) (cs := #[.slice (some ⟨g, 0, none⟩) n c, .int .i64 a0, .int .i64 a1, .int .i64 a2, .int .i64 a3, .int .i64 a4, .slice (some ⟨h, 0, none⟩) m d, .int .i64 a5, .int .i64 a6, .int .i64 a7, .int .i64 a8, .int .i64 a9, .int .i64 a10, .int .i64 a11]) (g := b_A) (by simp [hbx_A]))
  have hwb_A : w.heap.size ≤ b_A := by omega
  have hb_0 : Below w.heap.size w (w.alloc (.cells #[.slice (some ⟨g, 0, none⟩) n c, .int .i64 a0, .int .i64 a1, .int .i64 a2, .int .i64 a3, .int .i64 a4, .slice (some ⟨h, 0, none⟩) m d, .int .i64 a5, .int .i64 a6, .int .i64 a7, .int .i64 a8, .int .i64 a9, .int .i64 a10, .int .i64 a11] 76)) := by
    have h : In w.heap.size w (w.alloc (.cells #[.slice (some ⟨g, 0, none⟩) n c, .int .i64 a0, .int .i64 a1, .int .i64 a2, .int .i64 a3, .int .i64 a4, .slice (some ⟨h, 0, none⟩) m d, .int .i64 a5, .int .i64 a6, .int .i64 a7, .int .i64 a8, .int .i64 a9, .int .i64 a10, .int .i64 a11] 76)) := by (repeat (first | exact In.refl _ | assumption | apply In.alloc | apply In.drewN | apply In.drew | (refine In.step ?_ (by assumption))))
    exact h.below
  have hsz_0 : (w.alloc (.cells #[.slice (some ⟨g, 0, none⟩) n c, .int .i64 a0, .int .i64 a1, .int .i64 a2, .int .i64 a3, .int .i64 a4, .slice (some ⟨h, 0, none⟩) m d, .int .i64 a5, .int .i64 a6, .int .i64 a7, .int .i64 a8, .int .i64 a9, .int .i64 a10, .int .i64 a11] 76)).heap.size = b_A + 1 := by simp [hbx_A]
  go_enter Try.func54, Try.ntmps54
  go_wp2_with fail
  rw [← hbx_A]
  clear hbx_A
  generalize (w.alloc (.cells #[.slice (some ⟨g, 0, none⟩) n c, .int .i64 a0, .int .i64 a1, .int .i64 a2, .int .i64 a3, .int .i64 a4, .slice (some ⟨h, 0, none⟩) m d, .int .i64 a5, .int .i64 a6, .int .i64 a7, .int .i64 a8, .int .i64 a9, .int .i64 a10, .int .i64 a11] 76)) = w_0 at *
  have i_0 : In w.heap.size w w_0 := In.step (by (repeat (first | exact In.refl _ | assumption | apply In.alloc | apply In.drewN | apply In.drew | (refine In.step ?_ (by assumption))))) hb_0
  have k_0_A : Blk w_0 b_A 76 #[.slice (some ⟨g, 0, none⟩) n c, .int .i64 a0, .int .i64 a1, .int .i64 a2, .int .i64 a3, .int .i64 a4, .slice (some ⟨h, 0, none⟩) m d, .int .i64 a5, .int .i64 a6, .int .i64 a7, .int .i64 a8, .int .i64 a9, .int .i64 a10, .int .i64 a11] := kk_A
  have c_0_A_0 : w_0.cell? ⟨b_A, 0, none⟩ = some (.slice (some ⟨g, 0, none⟩) n c) := k_0_A.cell 0
  have c_0_A_1 : w_0.cell? ⟨b_A, 1, none⟩ = some (.int .i64 a0) := k_0_A.cell 1
  have c_0_A_2 : w_0.cell? ⟨b_A, 2, none⟩ = some (.int .i64 a1) := k_0_A.cell 2
  have c_0_A_3 : w_0.cell? ⟨b_A, 3, none⟩ = some (.int .i64 a2) := k_0_A.cell 3
  have c_0_A_4 : w_0.cell? ⟨b_A, 4, none⟩ = some (.int .i64 a3) := k_0_A.cell 4
  have c_0_A_5 : w_0.cell? ⟨b_A, 5, none⟩ = some (.int .i64 a4) := k_0_A.cell 5
  have c_0_A_6 : w_0.cell? ⟨b_A, 6, none⟩ = some (.slice (some ⟨h, 0, none⟩) m d) := k_0_A.cell 6
  have c_0_A_7 : w_0.cell? ⟨b_A, 7, none⟩ = some (.int .i64 a5) := k_0_A.cell 7
  have c_0_A_8 : w_0.cell? ⟨b_A, 8, none⟩ = some (.int .i64 a6) := k_0_A.cell 8
  have c_0_A_9 : w_0.cell? ⟨b_A, 9, none⟩ = some (.int .i64 a7) := k_0_A.cell 9
  have c_0_A_10 : w_0.cell? ⟨b_A, 10, none⟩ = some (.int .i64 a8) := k_0_A.cell 10
  have c_0_A_11 : w_0.cell? ⟨b_A, 11, none⟩ = some (.int .i64 a9) := k_0_A.cell 11
  have c_0_A_12 : w_0.cell? ⟨b_A, 12, none⟩ = some (.int .i64 a10) := k_0_A.cell 12
  have c_0_A_13 : w_0.cell? ⟨b_A, 13, none⟩ = some (.int .i64 a11) := k_0_A.cell 13
  have l_0_A := k_0_A.lt
  clear kk_A
  go_wp2_with fail
  refine (iBakeryOk g n c xs h m d ys a0 a1 a2 a3 a4 a5 a6 a7 a8 a9 a10 a11 _ hn hm (HX.out.in_ (by (repeat (first | exact In.refl _ | assumption | apply In.alloc | apply In.drewN | apply In.drew | (refine In.step ?_ (by assumption)))))) (HY.out.in_ (by (repeat (first | exact In.refl _ | assumption | apply In.alloc | apply In.drewN | apply In.drew | (refine In.step ?_ (by assumption))))))).mono ?_
  rintro _ w_1 ⟨rfl, hb_1⟩
  have i_1 : In w.heap.size w w_1 := In.step (by (repeat (first | exact In.refl _ | assumption | apply In.alloc | apply In.drewN | apply In.drew | (refine In.step ?_ (by assumption))))) hb_1
  have k_1_A : Blk w_1 b_A 76 #[.slice (some ⟨g, 0, none⟩) n c, .int .i64 a0, .int .i64 a1, .int .i64 a2, .int .i64 a3, .int .i64 a4, .slice (some ⟨h, 0, none⟩) m d, .int .i64 a5, .int .i64 a6, .int .i64 a7, .int .i64 a8, .int .i64 a9, .int .i64 a10, .int .i64 a11] := Blk.step (by (with_reducible (repeat (first | assumption | exact Blk.new' (by simp) | apply Blk.drewN | apply Blk.drew | apply Blk.alloc | (refine Blk.far ?_ (by (try simp) <;> omega) _))))) hb_1
  have c_1_A_0 : w_1.cell? ⟨b_A, 0, none⟩ = some (.slice (some ⟨g, 0, none⟩) n c) := k_1_A.cell 0
  have c_1_A_1 : w_1.cell? ⟨b_A, 1, none⟩ = some (.int .i64 a0) := k_1_A.cell 1
  have c_1_A_2 : w_1.cell? ⟨b_A, 2, none⟩ = some (.int .i64 a1) := k_1_A.cell 2
  have c_1_A_3 : w_1.cell? ⟨b_A, 3, none⟩ = some (.int .i64 a2) := k_1_A.cell 3
  have c_1_A_4 : w_1.cell? ⟨b_A, 4, none⟩ = some (.int .i64 a3) := k_1_A.cell 4
  have c_1_A_5 : w_1.cell? ⟨b_A, 5, none⟩ = some (.int .i64 a4) := k_1_A.cell 5
  have c_1_A_6 : w_1.cell? ⟨b_A, 6, none⟩ = some (.slice (some ⟨h, 0, none⟩) m d) := k_1_A.cell 6
  have c_1_A_7 : w_1.cell? ⟨b_A, 7, none⟩ = some (.int .i64 a5) := k_1_A.cell 7
  have c_1_A_8 : w_1.cell? ⟨b_A, 8, none⟩ = some (.int .i64 a6) := k_1_A.cell 8
  have c_1_A_9 : w_1.cell? ⟨b_A, 9, none⟩ = some (.int .i64 a7) := k_1_A.cell 9
  have c_1_A_10 : w_1.cell? ⟨b_A, 10, none⟩ = some (.int .i64 a8) := k_1_A.cell 10
  have c_1_A_11 : w_1.cell? ⟨b_A, 11, none⟩ = some (.int .i64 a9) := k_1_A.cell 11
  have c_1_A_12 : w_1.cell? ⟨b_A, 12, none⟩ = some (.int .i64 a10) := k_1_A.cell 12
  have c_1_A_13 : w_1.cell? ⟨b_A, 13, none⟩ = some (.int .i64 a11) := k_1_A.cell 13
  have l_1_A := k_1_A.lt
  clear i_0 k_0_A c_0_A_0 c_0_A_1 c_0_A_2 c_0_A_3 c_0_A_4 c_0_A_5 c_0_A_6 c_0_A_7 c_0_A_8 c_0_A_9 c_0_A_10 c_0_A_11 c_0_A_12 c_0_A_13 l_0_A hb_0
  cases h1 : yOk n xs m ys a0 a1 a2 a3 a4 a5 a6 a7 a8 a9 a10 a11
  · have HV : Hid (fnV n xs m ys a0 a1 a2 a3 a4 a5 a6 a7 a8 a9 a10 a11 l = -1) := Lib.hid (by simp [fnV, h1])
    go_wp2
    go_ret
    exact Val.mk' (v_int HV.out.symm) (by (repeat (first | exact In.refl _ | assumption | apply In.alloc | apply In.drewN | apply In.drew | (refine In.step ?_ (by assumption)))))
  go_wp2_with fail
  refine (iIn l 0 1000 _).mono ?_
  rintro _ _ ⟨rfl, rfl⟩
  cases h2 : inB l 0 1000
  · have HV : Hid (fnV n xs m ys a0 a1 a2 a3 a4 a5 a6 a7 a8 a9 a10 a11 l = -1) := Lib.hid (by simp [fnV, h1, h2])
    go_wp2
    go_ret
    exact Val.mk' (v_int HV.out.symm) (by (repeat (first | exact In.refl _ | assumption | apply In.alloc | apply In.drewN | apply In.drew | (refine In.step ?_ (by assumption)))))
  have HV : Hid (fnV n xs m ys a0 a1 a2 a3 a4 a5 a6 a7 a8 a9 a10 a11 l = flourV a0 a1 a2 (doughV a3 a4 * l)) := Lib.hid (by simp [fnV, h1, h2])
  have hd := dough_in a3 a4 (yOk_loaf h1)
  have hl := inB_tt h2
  have hmul := mul_in (a := doughV a3 a4) (b := l) (A := 10000) (B := 1000) (by omega) hd.2 hl.1 hl.2
  have HDF := Lib.hid (fun W => iDoughFor a3 a4 W)
  generalize doughV a3 a4 = D at *
  have hw1 : wrap64 (D * l) = D * l := w64 (by omega)
  have hw2 : IntKind.i64.wrap (D * l) = D * l := IntWalk.i64_in _ (by omega)
  clear hmul hd hl
  go_wp2_with fail
  obtain ⟨B_1, hB_1⟩ : ∃ B, B = w_1.heap.size := ⟨_, rfl⟩
  have hBl_1 : B_1 ≤ w_1.heap.size := by omega
  have hBg_1 : w_1.heap.size ≤ B_1 := by omega
  clear hB_1
  refine wp_region_facts2 (JIFli w_1 g n c h m d b_A a0 a1 a2 a3 a4 a5 a6 a7 a8 a9 a10 a11 l D) (JFFli B_1 g n c h m d b_A a0 a1 a2 a3 a4 a5 a6 a7 a8 a9 a10 a11 l D) (fun j => j == 8) (fun k j => (k == 1 && (j == 0)) || (k == 3 && (j == 2)) || (k == 4 && (j == 3)) || (k == 6 && (j == 4 || j == 5)) || (k == 7 && (j == 1 || j == 6)) || (k == 8 && (j == 7))) (by kernel_rfl) (by kernel_rfl) ⟨⟨fun j => if j = 4 then Value.int IntKind.i64 0 else undef, rfl⟩, (In.refl _).drew⟩ ?_ ?_
  · intro a v1 i o ho hI haf
    obtain ⟨⟨f, rfl⟩, hin⟩ := hI
    have kv_A : Blk v1 b_A 76 #[.slice (some ⟨g, 0, none⟩) n c, .int .i64 a0, .int .i64 a1, .int .i64 a2, .int .i64 a3, .int .i64 a4, .slice (some ⟨h, 0, none⟩) m d, .int .i64 a5, .int .i64 a6, .int .i64 a7, .int .i64 a8, .int .i64 a9, .int .i64 a10, .int .i64 a11] := Blk.step k_1_A hin.below
    have cv_A_0 := kv_A.cell 0
    have cv_A_1 := kv_A.cell 1
    have cv_A_2 := kv_A.cell 2
    have cv_A_3 := kv_A.cell 3
    have cv_A_4 := kv_A.cell 4
    have cv_A_5 := kv_A.cell 5
    have cv_A_6 := kv_A.cell 6
    have cv_A_7 := kv_A.cell 7
    have cv_A_8 := kv_A.cell 8
    have cv_A_9 := kv_A.cell 9
    have cv_A_10 := kv_A.cell 10
    have cv_A_11 := kv_A.cell 11
    have cv_A_12 := kv_A.cell 12
    have cv_A_13 := kv_A.cell 13
    have hi : i < 9 := by
      rcases Nat.lt_or_ge i 9 with h | h
      · exact h
      · simp [h] at ho
    suffices H : ∀ K : Act → World → Prop, (∀ a' w', ((JIFli w_1 g n c h m d b_A a0 a1 a2 a3 a4 a5 a6 a7 a8 a9 a10 a11 l D) a' w' ∧ (JFFli B_1 g n c h m d b_A a0 a1 a2 a3 a4 a5 a6 a7 a8 a9 a10 a11 l D) i a' w' ∧ ∀ j, j ≠ i → waitsT _ 6 j i = false → ((fun j => j == 8) j || usesB _ (fun k j => (k == 1 && (j == 0)) || (k == 3 && (j == 2)) || (k == 4 && (j == 3)) || (k == 6 && (j == 4 || j == 5)) || (k == 7 && (j == 1 || j == 6)) || (k == 8 && (j == 7))) i j) = true → (JFFli B_1 g n c h m d b_A a0 a1 a2 a3 a4 a5 a6 a7 a8 a9 a10 a11 l D) j ⟨#[Value.agg #[Value.slice (some { block := g, off := 0 }) n c, Value.int IntKind.i64 a0, Value.int IntKind.i64 a1, Value.int IntKind.i64 a2, Value.int IntKind.i64 a3, Value.int IntKind.i64 a4, Value.slice (some { block := h, off := 0 }) m d, Value.int IntKind.i64 a5, Value.int IntKind.i64 a6, Value.int IntKind.i64 a7, Value.int IntKind.i64 a8, Value.int IntKind.i64 a9, Value.int IntKind.i64 a10, Value.int IntKind.i64 a11], Value.int IntKind.i64 l, Value.pointer (some { block := b_A, off := 0 }), undef, f 4, Value.agg #[Value.slice (some { block := g, off := 0 }) n c, Value.int IntKind.i64 a0, Value.int IntKind.i64 a1, Value.int IntKind.i64 a2, Value.int IntKind.i64 a3, Value.int IntKind.i64 a4, Value.slice (some { block := h, off := 0 }) m d, Value.int IntKind.i64 a5, Value.int IntKind.i64 a6, Value.int IntKind.i64 a7, Value.int IntKind.i64 a8, Value.int IntKind.i64 a9, Value.int IntKind.i64 a10, Value.int IntKind.i64 a11], Value.bool true, Value.bool false, Value.bool false, Value.int IntKind.i64 l, Value.bool true, Value.bool false, Value.bool false, f 13, f 14, f 15, f 16, f 17, f 18, f 19, f 20], []⟩ v1 → (JFFli B_1 g n c h m d b_A a0 a1 a2 a3 a4 a5 a6 a7 a8 a9 a10 a11 l D) j a' w') → K a' w') → wpOp _ _ _ i K ⟨#[Value.agg #[Value.slice (some { block := g, off := 0 }) n c, Value.int IntKind.i64 a0, Value.int IntKind.i64 a1, Value.int IntKind.i64 a2, Value.int IntKind.i64 a3, Value.int IntKind.i64 a4, Value.slice (some { block := h, off := 0 }) m d, Value.int IntKind.i64 a5, Value.int IntKind.i64 a6, Value.int IntKind.i64 a7, Value.int IntKind.i64 a8, Value.int IntKind.i64 a9, Value.int IntKind.i64 a10, Value.int IntKind.i64 a11], Value.int IntKind.i64 l, Value.pointer (some { block := b_A, off := 0 }), undef, f 4, Value.agg #[Value.slice (some { block := g, off := 0 }) n c, Value.int IntKind.i64 a0, Value.int IntKind.i64 a1, Value.int IntKind.i64 a2, Value.int IntKind.i64 a3, Value.int IntKind.i64 a4, Value.slice (some { block := h, off := 0 }) m d, Value.int IntKind.i64 a5, Value.int IntKind.i64 a6, Value.int IntKind.i64 a7, Value.int IntKind.i64 a8, Value.int IntKind.i64 a9, Value.int IntKind.i64 a10, Value.int IntKind.i64 a11], Value.bool true, Value.bool false, Value.bool false, Value.int IntKind.i64 l, Value.bool true, Value.bool false, Value.bool false, f 13, f 14, f 15, f 16, f 17, f 18, f 19, f 20], []⟩ v1 from H _ fun _ _ h => h
    intro K hK
    rcases (by omega : i = 0 ∨ i = 1 ∨ i = 2 ∨ i = 3 ∨ i = 4 ∨ i = 5 ∨ i = 6 ∨ i = 7 ∨ i = 8) with rfl | rfl | rfl | rfl | rfl | rfl | rfl | rfl | rfl
    · obtain rfl := Option.some.inj ho
      refine wpOp_plain rfl rfl ?_
      unfold Oper.wp
      go_simp
      exact hK _ _ ⟨⟨⟨updf f 13 (.pointer (some ⟨b_A, 1, none⟩)), rfl⟩, hin⟩, rfl, fun j hj hw hu hf => by
          rcases j with _ | _ | _ | _ | _ | _ | _ | _ | _ | j
          · exact absurd rfl hj
          · first | (have h9 : _ = _ := hf; exact h9) | rfl
          · first | (have h9 : _ = _ := hf; exact h9) | rfl
          · first | (have h9 : _ = _ := hf; exact h9) | rfl
          · first | (have h9 : _ = _ := hf; exact h9) | rfl
          · first | (have h9 : _ = _ := hf; exact h9) | rfl
          · first | (have h9 : _ = _ := hf; exact h9) | rfl
          · first | (have h9 : _ = _ := hf; exact h9) | rfl
          · first | (have h9 : _ = _ := hf; exact h9) | rfl
          · exact trivial⟩
    · obtain rfl := Option.some.inj ho
      have f0 := haf { on := 0, ground := .data } (by simp) rfl rfl
      have f0 : _ = _ := Option.some.inj f0
      refine wpOp_plain rfl rfl ?_
      unfold Oper.wp
      go_simp
      exact hK _ _ ⟨⟨⟨updf f 14 (.agg #[.int .i64 a0, .int .i64 a1, .int .i64 a2]), rfl⟩, hin⟩, rfl, fun j hj hw hu hf => by
          rcases j with _ | _ | _ | _ | _ | _ | _ | _ | _ | j
          · first | (have h9 : _ = _ := hf; exact h9) | rfl
          · exact absurd rfl hj
          · first | (have h9 : _ = _ := hf; exact h9) | rfl
          · first | (have h9 : _ = _ := hf; exact h9) | rfl
          · first | (have h9 : _ = _ := hf; exact h9) | rfl
          · first | (have h9 : _ = _ := hf; exact h9) | rfl
          · first | (have h9 : _ = _ := hf; exact h9) | rfl
          · first | (have h9 : _ = _ := hf; exact h9) | rfl
          · first | (have h9 : _ = _ := hf; exact h9) | rfl
          · exact trivial⟩
    · obtain rfl := Option.some.inj ho
      refine wpOp_plain rfl rfl ?_
      unfold Oper.wp
      go_simp
      exact hK _ _ ⟨⟨⟨updf f 15 (.pointer (some ⟨b_A, 4, none⟩)), rfl⟩, hin⟩, rfl, fun j hj hw hu hf => by
          rcases j with _ | _ | _ | _ | _ | _ | _ | _ | _ | j
          · first | (have h9 : _ = _ := hf; exact h9) | rfl
          · first | (have h9 : _ = _ := hf; exact h9) | rfl
          · exact absurd rfl hj
          · first | (have h9 : _ = _ := hf; exact h9) | rfl
          · first | (have h9 : _ = _ := hf; exact h9) | rfl
          · first | (have h9 : _ = _ := hf; exact h9) | rfl
          · first | (have h9 : _ = _ := hf; exact h9) | rfl
          · first | (have h9 : _ = _ := hf; exact h9) | rfl
          · first | (have h9 : _ = _ := hf; exact h9) | rfl
          · exact trivial⟩
    · obtain rfl := Option.some.inj ho
      have f2 := haf { on := 2, ground := .data } (by simp) rfl rfl
      have f2 : _ = _ := Option.some.inj f2
      refine wpOp_plain rfl rfl ?_
      unfold Oper.wp
      go_simp
      exact hK _ _ ⟨⟨⟨updf f 16 (.agg #[.int .i64 a3, .int .i64 a4]), rfl⟩, hin⟩, rfl, fun j hj hw hu hf => by
          rcases j with _ | _ | _ | _ | _ | _ | _ | _ | _ | j
          · first | (have h9 : _ = _ := hf; exact h9) | rfl
          · first | (have h9 : _ = _ := hf; exact h9) | rfl
          · first | (have h9 : _ = _ := hf; exact h9) | rfl
          · exact absurd rfl hj
          · first | (have h9 : _ = _ := hf; exact h9) | rfl
          · first | (have h9 : _ = _ := hf; exact h9) | rfl
          · first | (have h9 : _ = _ := hf; exact h9) | rfl
          · first | (have h9 : _ = _ := hf; exact h9) | rfl
          · first | (have h9 : _ = _ := hf; exact h9) | rfl
          · exact trivial⟩
    · obtain rfl := Option.some.inj ho
      have f3 := haf { on := 3, ground := .data } (by simp) rfl rfl
      have f3 : _ = _ := Option.some.inj f3
      refine wpOp_plain rfl rfl ?_
      unfold Oper.wp
      go_simp
      refine (HDF.out _).mono ?_
      rintro _ v2 ⟨rfl, hb2⟩
      exact hK _ _ ⟨⟨⟨updf f 17 (.int .i64 D), rfl⟩, hin.step hb2⟩, rfl, fun j hj hw hu hf => by
          rcases j with _ | _ | _ | _ | _ | _ | _ | _ | _ | j
          · first | (have h9 : _ = _ := hf; exact h9) | rfl
          · first | (have h9 : _ = _ := hf; exact h9) | rfl
          · first | (have h9 : _ = _ := hf; exact h9) | rfl
          · first | (have h9 : _ = _ := hf; exact h9) | rfl
          · exact absurd rfl hj
          · first | (have h9 : _ = _ := hf; exact h9) | rfl
          · first | (have h9 : _ = _ := hf; exact h9) | rfl
          · first | (have h9 : _ = _ := hf; exact h9) | rfl
          · first | (have h9 : _ = _ := hf; exact h9) | rfl
          · exact trivial⟩
    · obtain rfl := Option.some.inj ho
      refine wpOp_plain rfl rfl ?_
      unfold Oper.wp
      go_simp
      exact hK _ _ ⟨⟨⟨updf f 18 (.int .i64 l), rfl⟩, hin⟩, rfl, fun j hj hw hu hf => by
          rcases j with _ | _ | _ | _ | _ | _ | _ | _ | _ | j
          · first | (have h9 : _ = _ := hf; exact h9) | rfl
          · first | (have h9 : _ = _ := hf; exact h9) | rfl
          · first | (have h9 : _ = _ := hf; exact h9) | rfl
          · first | (have h9 : _ = _ := hf; exact h9) | rfl
          · first | (have h9 : _ = _ := hf; exact h9) | rfl
          · exact absurd rfl hj
          · first | (have h9 : _ = _ := hf; exact h9) | rfl
          · first | (have h9 : _ = _ := hf; exact h9) | rfl
          · first | (have h9 : _ = _ := hf; exact h9) | rfl
          · exact trivial⟩
    · obtain rfl := Option.some.inj ho
      have f4 := haf { on := 4, ground := .data } (by simp) rfl rfl
      have f4 : _ = _ := Option.some.inj f4
      have f5 := haf { on := 5, ground := .data } (by simp) rfl rfl
      have f5 : _ = _ := Option.some.inj f5
      refine wpOp_plain rfl rfl ?_
      unfold Oper.wp
      go_simp
      exact hK _ _ ⟨⟨⟨updf f 19 (.int .i64 (D * l)), rfl⟩, hin⟩, rfl, fun j hj hw hu hf => by
          rcases j with _ | _ | _ | _ | _ | _ | _ | _ | _ | j
          · first | (have h9 : _ = _ := hf; exact h9) | rfl
          · first | (have h9 : _ = _ := hf; exact h9) | rfl
          · first | (have h9 : _ = _ := hf; exact h9) | rfl
          · first | (have h9 : _ = _ := hf; exact h9) | rfl
          · first | (have h9 : _ = _ := hf; exact h9) | rfl
          · first | (have h9 : _ = _ := hf; exact h9) | rfl
          · exact absurd rfl hj
          · first | (have h9 : _ = _ := hf; exact h9) | rfl
          · first | (have h9 : _ = _ := hf; exact h9) | rfl
          · exact trivial⟩
    · obtain rfl := Option.some.inj ho
      have f1 := haf { on := 1, ground := .data } (by simp) rfl rfl
      have f1 : _ = _ := Option.some.inj f1
      have f6 := haf { on := 6, ground := .data } (by simp) rfl rfl
      have f6 : _ = _ := Option.some.inj f6
      refine wpOp_plain rfl rfl ?_
      unfold Oper.wp
      go_simp
      refine (iFlourFor a0 a1 a2 (D * l) _).mono ?_
      rintro _ v2 ⟨rfl, hb2⟩
      exact hK _ _ ⟨⟨⟨updf f 20 (.int .i64 (flourV a0 a1 a2 (D * l))), rfl⟩, hin.step hb2⟩, rfl, fun j hj hw hu hf => by
          rcases j with _ | _ | _ | _ | _ | _ | _ | _ | _ | j
          · first | (have h9 : _ = _ := hf; exact h9) | rfl
          · first | (have h9 : _ = _ := hf; exact h9) | rfl
          · first | (have h9 : _ = _ := hf; exact h9) | rfl
          · first | (have h9 : _ = _ := hf; exact h9) | rfl
          · first | (have h9 : _ = _ := hf; exact h9) | rfl
          · first | (have h9 : _ = _ := hf; exact h9) | rfl
          · first | (have h9 : _ = _ := hf; exact h9) | rfl
          · exact absurd rfl hj
          · first | (have h9 : _ = _ := hf; exact h9) | rfl
          · exact trivial⟩
    · obtain rfl := Option.some.inj ho
      have f7 := haf { on := 7, ground := .data } (by simp) rfl rfl
      have f7 : _ = _ := Option.some.inj f7
      refine wpOp_plain rfl rfl ?_
      unfold Oper.wp
      go_simp
      exact hK _ _ ⟨⟨⟨updf f 4 (.int .i64 (flourV a0 a1 a2 (D * l))), rfl⟩, hin⟩, rfl, fun j hj hw hu hf => by
          rcases j with _ | _ | _ | _ | _ | _ | _ | _ | _ | j
          · first | (have h9 : _ = _ := hf; exact h9) | rfl
          · first | (have h9 : _ = _ := hf; exact h9) | rfl
          · first | (have h9 : _ = _ := hf; exact h9) | rfl
          · first | (have h9 : _ = _ := hf; exact h9) | rfl
          · first | (have h9 : _ = _ := hf; exact h9) | rfl
          · first | (have h9 : _ = _ := hf; exact h9) | rfl
          · first | (have h9 : _ = _ := hf; exact h9) | rfl
          · first | (have h9 : _ = _ := hf; exact h9) | rfl
          · exact absurd rfl hj
          · exact trivial⟩
  intro a w_2 hI hF
  obtain ⟨⟨hFli, rfl⟩, hn_2⟩ := hI
  have hb_2 := hn_2.below
  have he_2_4 : hFli 4 = _ := Option.some.inj (hF 8 (by decide) (by decide))
  clear hF
  rw [he_2_4]
  clear he_2_4
  have i_2 : In w.heap.size w w_2 := In.step (by (repeat (first | exact In.refl _ | assumption | apply In.alloc | apply In.drewN | apply In.drew | (refine In.step ?_ (by assumption))))) hb_2
  have k_2_A : Blk w_2 b_A 76 #[.slice (some ⟨g, 0, none⟩) n c, .int .i64 a0, .int .i64 a1, .int .i64 a2, .int .i64 a3, .int .i64 a4, .slice (some ⟨h, 0, none⟩) m d, .int .i64 a5, .int .i64 a6, .int .i64 a7, .int .i64 a8, .int .i64 a9, .int .i64 a10, .int .i64 a11] := Blk.step (by (with_reducible (repeat (first | assumption | exact Blk.new' (by simp) | apply Blk.drewN | apply Blk.drew | apply Blk.alloc | (refine Blk.far ?_ (by (try simp) <;> omega) _))))) hb_2
  have c_2_A_0 : w_2.cell? ⟨b_A, 0, none⟩ = some (.slice (some ⟨g, 0, none⟩) n c) := k_2_A.cell 0
  have c_2_A_1 : w_2.cell? ⟨b_A, 1, none⟩ = some (.int .i64 a0) := k_2_A.cell 1
  have c_2_A_2 : w_2.cell? ⟨b_A, 2, none⟩ = some (.int .i64 a1) := k_2_A.cell 2
  have c_2_A_3 : w_2.cell? ⟨b_A, 3, none⟩ = some (.int .i64 a2) := k_2_A.cell 3
  have c_2_A_4 : w_2.cell? ⟨b_A, 4, none⟩ = some (.int .i64 a3) := k_2_A.cell 4
  have c_2_A_5 : w_2.cell? ⟨b_A, 5, none⟩ = some (.int .i64 a4) := k_2_A.cell 5
  have c_2_A_6 : w_2.cell? ⟨b_A, 6, none⟩ = some (.slice (some ⟨h, 0, none⟩) m d) := k_2_A.cell 6
  have c_2_A_7 : w_2.cell? ⟨b_A, 7, none⟩ = some (.int .i64 a5) := k_2_A.cell 7
  have c_2_A_8 : w_2.cell? ⟨b_A, 8, none⟩ = some (.int .i64 a6) := k_2_A.cell 8
  have c_2_A_9 : w_2.cell? ⟨b_A, 9, none⟩ = some (.int .i64 a7) := k_2_A.cell 9
  have c_2_A_10 : w_2.cell? ⟨b_A, 10, none⟩ = some (.int .i64 a8) := k_2_A.cell 10
  have c_2_A_11 : w_2.cell? ⟨b_A, 11, none⟩ = some (.int .i64 a9) := k_2_A.cell 11
  have c_2_A_12 : w_2.cell? ⟨b_A, 12, none⟩ = some (.int .i64 a10) := k_2_A.cell 12
  have c_2_A_13 : w_2.cell? ⟨b_A, 13, none⟩ = some (.int .i64 a11) := k_2_A.cell 13
  have l_2_A := k_2_A.lt
  clear i_1 k_1_A c_1_A_0 c_1_A_1 c_1_A_2 c_1_A_3 c_1_A_4 c_1_A_5 c_1_A_6 c_1_A_7 c_1_A_8 c_1_A_9 c_1_A_10 c_1_A_11 c_1_A_12 c_1_A_13 l_1_A hb_1
  clear hn_2
  clear hBl_1 hBg_1
  go_wp2
  go_ret
  exact Val.mk' (v_int HV.out.symm) (by (repeat (first | exact In.refl _ | assumption | apply In.alloc | apply In.drewN | apply In.drew | (refine In.step ?_ (by assumption)))))
end Go.Proofs.Ytmlemplkbkgjfaa
