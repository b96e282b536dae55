/- Chapter 37: Strike. -/
import Derived.Test.YtmlemplkbkgjfaaJ37
namespace Go.Proofs.Ytmlemplkbkgjfaa
open Go.ChangeShapes Go.WideShapes Go.ChangeAt Go.RowKit
set_option linter.unusedVariables false
set_option linter.unusedSimpArgs false
set_option maxHeartbeats 2000000

theorem slHiE (a : Option Addr) (n c k : Nat) (hk : k ≤ c) (w : World) : (Instr.slice 48 (.slice a n c) none (some (.int .i64 (k : Int))) none).run Try.prog w = .ok (.slice a k c) w := by
  have h1 : (k : Int) ≤ (c : Int) := by omega
  simp [Instr.slice, Instr.sliceBounds, Instr.sliceBound, go_sem, Try.underlying48, h1]
  intro h; omega
theorem reads_hiE {w : World} {a : Option Addr} {n : Nat} {xs : List EventR} (h : ReadsEvent w a n xs) (k : Nat) (hk : k ≤ n) : ReadsEvent w a k (xs.take k) := by
  refine ⟨by rw [List.length_take, h.1]; omega, fun i hi => ?_⟩
  obtain ⟨ad, ha, h0, h1⟩ := h.2 i (by omega)
  refine ⟨ad, ha, ?_, ?_⟩
  · rw [h0]; simp [List.getD_eq_getElem?_getD, hi]
  · rw [h1]; simp [List.getD_eq_getElem?_getD, hi]
theorem take_at (xs : List EventR) (m k : Nat) (hk : k < m) : (xs.take m).getD k ⟨0, 0⟩ = xs.getD k ⟨0, 0⟩ := by simp [List.getD_eq_getElem?_getD, hk]
theorem stTo_take (xs : List EventR) (m : Nat) : stTo (xs.take m) m = stTo xs m := stTo_congr m fun k hk => take_at xs m k hk
theorem cntB_take {xs : List EventR} {n m : Nat} (hm : m ≤ n) (h : cntB xs n = true) : cntB (xs.take m) m = true :=
  cntB_congr m (fun k hk => (take_at xs m k hk).symm) (allOk_t _ _ fun i hi => allOk_at _ _ h i (by omega))
def skB (n : Nat) (xs : List EventR) (a b c d e f : Int) : Bool := bkB n xs a b c d e f && decide (n ≠ 0)
def skL (n : Nat) (xs : List EventR) (a b c d e f : Int) : List EventR := if skB n xs a b c d e f then xs.take (n - 1) else xs
def skS (n : Nat) (xs : List EventR) (a b c d e f : Int) : BkS := if skB n xs a b c d e f then stTo xs (n - 1) else ⟨a, b, c, d, e, f⟩
theorem skL_len {n : Nat} {xs : List EventR} {a b c d e f : Int} (h : xs.length = n) : (skL n xs a b c d e f).length ≤ n := by
  unfold skL
  split
  · rw [List.length_take]; omega
  · omega
theorem rowBkV_of {w w' : World} {g n cp : Nat} {xs ys : List EventR} {s t : BkS} {v u : Value} (hx : ys = xs) (hs : t = s) (hv : u = v) (ho : OCEvent w' g n cp xs) (hg : w.heap.size ≤ g) (hb : Below w.heap.size w w') : RowBkV ys.length ys t u w (.returned (.tuple #[.agg (bkC (some ⟨g, 0, none⟩) n cp s), v])) w' := by
  subst hx hs hv
  have hl := ho.len
  subst hl
  exact ⟨g, cp, rfl, ho, hg, hb⟩
set_option maxHeartbeats 4000000 in
theorem sStrike (ga n ca : Nat) (xs : List EventR) (a b c d e f : Int) (w : World) (hn : (n : Int) ≤ 1048577) (hc : n ≤ ca) (hx : ReadsEvent w (some ⟨ga, 0, none⟩) n xs) : Calls Try.prog 40 #[.agg #[.slice (some ⟨ga, 0, none⟩) n ca, .int .i64 a, .int .i64 b, .int .i64 c, .int .i64 d, .int .i64 e, .int .i64 f]] w (RowBkV (skL n xs a b c d e f).length (skL n xs a b c d e f) (skS n xs a b c d e f) (.bool (skB n xs a b c d e f)) w) := by
  have HX := Lib.hid hx
  clear hx
  obtain ⟨b_A, hbx_A⟩ : ∃ b, b = w.heap.size := ⟨_, rfl⟩
  have kk_A : Blk ((w.alloc (.cells #[.slice (some ⟨ga, 0, none⟩) n ca, .int .i64 a, .int .i64 b, .int .i64 c, .int .i64 d, .int .i64 e, .int .i64 f] 51)).alloc (.cells #[.slice none 0 0, .int .i64 0, .int .i64 0, .int .i64 0, .int .i64 0, .int .i64 0, .int .i64 0] 51)) b_A 51 #[.slice (some ⟨ga, 0, none⟩) n ca, .int .i64 a, .int .i64 b, .int .i64 c, .int .i64 d, .int .i64 e, .int .i64 f] := ((Blk.new' (w := w) (t := 51) (cs := #[.slice (some ⟨ga, 0, none⟩) n ca, .int .i64 a, .int .i64 b, .int .i64 c, .int .i64 d, .int .i64 e, .int .i64 f]) (g := b_A) (by simp [hbx_A])).alloc (.cells #[.slice none 0 0, .int .i64 0, .int .i64 0, .int .i64 0, .int .i64 0, .int .i64 0, .int .i64 0] 51))
  have hwb_A : w.heap.size ≤ b_A := by omega
  obtain ⟨b_R, hbx_R⟩ : ∃ b, b = w.heap.size + 1 := ⟨_, rfl⟩
  have kk_R : Blk ((w.alloc (.cells #[.slice (some ⟨ga, 0, none⟩) n ca, .int .i64 a, .int .i64 b, .int .i64 c, .int .i64 d, .int .i64 e, .int .i64 f] 51)).alloc (.cells #[.slice none 0 0, .int .i64 0, .int .i64 0, .int .i64 0, .int .i64 0, .int .i64 0, .int .i64 0] 51)) b_R 51 #[.slice none 0 0, .int .i64 0, .int .i64 0, .int .i64 0, .int .i64 0, .int .i64 0, .int .i64 0] := (Blk.new' (w := (w.alloc (.cells #[.slice (some ⟨ga, 0, none⟩) n ca, .int .i64 a, .int .i64 b, .int .i64 c, .int .i64 d, .int .i64 e, .int .i64 f] 51))) (t := 51) (cs := #[.slice none 0 0, .int .i64 0, .int .i64 0, .int .i64 0, .int .i64 0, .int .i64 0, .int .i64 0]) (g := b_R) (by simp [hbx_R]))
  have hwb_R : w.heap.size ≤ b_R := by omega
  have NB_A_R : Hid (b_A ≠ b_R) := Lib.hid (by omega)
  have hb_0 : Below w.heap.size w ((w.alloc (.cells #[.slice (some ⟨ga, 0, none⟩) n ca, .int .i64 a, .int .i64 b, .int .i64 c, .int .i64 d, .int .i64 e, .int .i64 f] 51)).alloc (.cells #[.slice none 0 0, .int .i64 0, .int .i64 0, .int .i64 0, .int .i64 0, .int .i64 0, .int .i64 0] 51)) := by
    have h : In w.heap.size w ((w.alloc (.cells #[.slice (some ⟨ga, 0, none⟩) n ca, .int .i64 a, .int .i64 b, .int .i64 c, .int .i64 d, .int .i64 e, .int .i64 f] 51)).alloc (.cells #[.slice none 0 0, .int .i64 0, .int .i64 0, .int .i64 0, .int .i64 0, .int .i64 0, .int .i64 0] 51)) := by (repeat (first | exact In.refl _ | assumption | apply In.alloc | apply In.drewN | apply In.drew | (refine In.step ?_ (by assumption))))
    exact h.below
  have hsz_0 : ((w.alloc (.cells #[.slice (some ⟨ga, 0, none⟩) n ca, .int .i64 a, .int .i64 b, .int .i64 c, .int .i64 d, .int .i64 e, .int .i64 f] 51)).alloc (.cells #[.slice none 0 0, .int .i64 0, .int .i64 0, .int .i64 0, .int .i64 0, .int .i64 0, .int .i64 0] 51)).heap.size = b_R + 1 := by simp [hbx_R]
  go_enter Try.func40, Try.ntmps40
  go_wp2_with fail
  rw [← hbx_R]
  clear hbx_R
  rw [← hbx_A]
  clear hbx_A
  generalize ((w.alloc (.cells #[.slice (some ⟨ga, 0, none⟩) n ca, .int .i64 a, .int .i64 b, .int .i64 c, .int .i64 d, .int .i64 e, .int .i64 f] 51)).alloc (.cells #[.slice none 0 0, .int .i64 0, .int .i64 0, .int .i64 0, .int .i64 0, .int .i64 0, .int .i64 0] 51)) = w_0 at *
  have i_0 : In w.heap.size w w_0 := In.step (by (repeat (first | exact In.refl _ | assumption | apply In.alloc | apply In.drewN | apply In.drew | (refine In.step ?_ (by assumption))))) hb_0
  have k_0_A : Blk w_0 b_A 51 #[.slice (some ⟨ga, 0, none⟩) n ca, .int .i64 a, .int .i64 b, .int .i64 c, .int .i64 d, .int .i64 e, .int .i64 f] := kk_A
  have c_0_A_0 : w_0.cell? ⟨b_A, 0, none⟩ = some (.slice (some ⟨ga, 0, none⟩) n ca) := k_0_A.cell 0
  have c_0_A_1 : w_0.cell? ⟨b_A, 1, none⟩ = some (.int .i64 a) := k_0_A.cell 1
  have c_0_A_2 : w_0.cell? ⟨b_A, 2, none⟩ = some (.int .i64 b) := k_0_A.cell 2
  have c_0_A_3 : w_0.cell? ⟨b_A, 3, none⟩ = some (.int .i64 c) := k_0_A.cell 3
  have c_0_A_4 : w_0.cell? ⟨b_A, 4, none⟩ = some (.int .i64 d) := k_0_A.cell 4
  have c_0_A_5 : w_0.cell? ⟨b_A, 5, none⟩ = some (.int .i64 e) := k_0_A.cell 5
  have c_0_A_6 : w_0.cell? ⟨b_A, 6, none⟩ = some (.int .i64 f) := k_0_A.cell 6
  have l_0_A := k_0_A.lt
  have k_0_R : Blk w_0 b_R 51 #[.slice none 0 0, .int .i64 0, .int .i64 0, .int .i64 0, .int .i64 0, .int .i64 0, .int .i64 0] := kk_R
  have c_0_R_0 : w_0.cell? ⟨b_R, 0, none⟩ = some (.slice none 0 0) := k_0_R.cell 0
  have c_0_R_1 : w_0.cell? ⟨b_R, 1, none⟩ = some (.int .i64 0) := k_0_R.cell 1
  have c_0_R_2 : w_0.cell? ⟨b_R, 2, none⟩ = some (.int .i64 0) := k_0_R.cell 2
  have c_0_R_3 : w_0.cell? ⟨b_R, 3, none⟩ = some (.int .i64 0) := k_0_R.cell 3
  have c_0_R_4 : w_0.cell? ⟨b_R, 4, none⟩ = some (.int .i64 0) := k_0_R.cell 4
  have c_0_R_5 : w_0.cell? ⟨b_R, 5, none⟩ = some (.int .i64 0) := k_0_R.cell 5
  have c_0_R_6 : w_0.cell? ⟨b_R, 6, none⟩ = some (.int .i64 0) := k_0_R.cell 6
  have l_0_R := k_0_R.lt
  have z_0_R := k_0_R.frozen
  clear kk_A kk_R
  go_wp2_with fail
  refine (sBookOk ga n ca xs a b c d e f _ hn (HX.out.in_ (by (repeat (first | exact In.refl _ | assumption | apply In.alloc | apply In.drewN | apply In.drew | (refine In.step ?_ (by assumption))))))).mono ?_
  rintro _ w_1 ⟨rfl, hb_1⟩
  have i_1 : In w.heap.size w w_1 := In.step (by (repeat (first | exact In.refl _ | assumption | apply In.alloc | apply In.drewN | apply In.drew | (refine In.step ?_ (by assumption))))) hb_1
  have k_1_A : Blk w_1 b_A 51 #[.slice (some ⟨ga, 0, none⟩) n ca, .int .i64 a, .int .i64 b, .int .i64 c, .int .i64 d, .int .i64 e, .int .i64 f] := Blk.step (by (with_reducible (repeat (first | assumption | exact Blk.new' (by simp) | apply Blk.drewN | apply Blk.drew | apply Blk.alloc | (refine Blk.far ?_ (by (try simp) <;> omega) _))))) hb_1
  have c_1_A_0 : w_1.cell? ⟨b_A, 0, none⟩ = some (.slice (some ⟨ga, 0, none⟩) n ca) := k_1_A.cell 0
  have c_1_A_1 : w_1.cell? ⟨b_A, 1, none⟩ = some (.int .i64 a) := k_1_A.cell 1
  have c_1_A_2 : w_1.cell? ⟨b_A, 2, none⟩ = some (.int .i64 b) := k_1_A.cell 2
  have c_1_A_3 : w_1.cell? ⟨b_A, 3, none⟩ = some (.int .i64 c) := k_1_A.cell 3
  have c_1_A_4 : w_1.cell? ⟨b_A, 4, none⟩ = some (.int .i64 d) := k_1_A.cell 4
  have c_1_A_5 : w_1.cell? ⟨b_A, 5, none⟩ = some (.int .i64 e) := k_1_A.cell 5
  have c_1_A_6 : w_1.cell? ⟨b_A, 6, none⟩ = some (.int .i64 f) := k_1_A.cell 6
  have l_1_A := k_1_A.lt
  have k_1_R : Blk w_1 b_R 51 #[.slice none 0 0, .int .i64 0, .int .i64 0, .int .i64 0, .int .i64 0, .int .i64 0, .int .i64 0] := Blk.step (by (with_reducible (repeat (first | assumption | exact Blk.new' (by simp) | apply Blk.drewN | apply Blk.drew | apply Blk.alloc | (refine Blk.far ?_ (by (try simp) <;> omega) _))))) hb_1
  have c_1_R_0 : w_1.cell? ⟨b_R, 0, none⟩ = some (.slice none 0 0) := k_1_R.cell 0
  have c_1_R_1 : w_1.cell? ⟨b_R, 1, none⟩ = some (.int .i64 0) := k_1_R.cell 1
  have c_1_R_2 : w_1.cell? ⟨b_R, 2, none⟩ = some (.int .i64 0) := k_1_R.cell 2
  have c_1_R_3 : w_1.cell? ⟨b_R, 3, none⟩ = some (.int .i64 0) := k_1_R.cell 3
  have c_1_R_4 : w_1.cell? ⟨b_R, 4, none⟩ = some (.int .i64 0) := k_1_R.cell 4
  have c_1_R_5 : w_1.cell? ⟨b_R, 5, none⟩ = some (.int .i64 0) := k_1_R.cell 5
  have c_1_R_6 : w_1.cell? ⟨b_R, 6, none⟩ = some (.int .i64 0) := k_1_R.cell 6
  have l_1_R := k_1_R.lt
  have z_1_R := k_1_R.frozen
  clear i_0 k_0_A c_0_A_0 c_0_A_1 c_0_A_2 c_0_A_3 c_0_A_4 c_0_A_5 c_0_A_6 l_0_A k_0_R c_0_R_0 c_0_R_1 c_0_R_2 c_0_R_3 c_0_R_4 c_0_R_5 c_0_R_6 l_0_R z_0_R hb_0
  cases h1 : bkB n xs a b c d e f
  · have HV : Hid (skB n xs a b c d e f = false) := Lib.hid (by simp [skB, h1])
    go_wp2_with fail
    refine (s37Copy ga n ca xs a b c d e f _ (by omega) (HX.out.in_ (by (repeat (first | exact In.refl _ | assumption | apply In.alloc | apply In.drewN | apply In.drew | (refine In.step ?_ (by assumption))))))).mono ?_
    rintro _ w_2 ⟨gE_2, cE_2, rfl, hoE_2, hgE_2, hb_2⟩
    have GX_E : Hid (w.heap.size ≤ gE_2) := Lib.hid (by have h1 := hgE_2; (try simp at h1); have h2 := In.size i_1; omega)
    have o_2_E : OCEvent w_2 gE_2 (n) cE_2 xs := hoE_2
    clear hoE_2 hgE_2
    have i_2 : In w.heap.size w w_2 := In.step (by (repeat (first | exact In.refl _ | assumption | apply In.alloc | apply In.drewN | apply In.drew | (refine In.step ?_ (by assumption))))) hb_2
    have k_2_A : Blk w_2 b_A 51 #[.slice (some ⟨ga, 0, none⟩) n ca, .int .i64 a, .int .i64 b, .int .i64 c, .int .i64 d, .int .i64 e, .int .i64 f] := Blk.step (by (with_reducible (repeat (first | assumption | exact Blk.new' (by simp) | apply Blk.drewN | apply Blk.drew | apply Blk.alloc | (refine Blk.far ?_ (by (try simp) <;> omega) _))))) hb_2
    have c_2_A_0 : w_2.cell? ⟨b_A, 0, none⟩ = some (.slice (some ⟨ga, 0, none⟩) n ca) := k_2_A.cell 0
    have c_2_A_1 : w_2.cell? ⟨b_A, 1, none⟩ = some (.int .i64 a) := k_2_A.cell 1
    have c_2_A_2 : w_2.cell? ⟨b_A, 2, none⟩ = some (.int .i64 b) := k_2_A.cell 2
    have c_2_A_3 : w_2.cell? ⟨b_A, 3, none⟩ = some (.int .i64 c) := k_2_A.cell 3
    have c_2_A_4 : w_2.cell? ⟨b_A, 4, none⟩ = some (.int .i64 d) := k_2_A.cell 4
    have c_2_A_5 : w_2.cell? ⟨b_A, 5, none⟩ = some (.int .i64 e) := k_2_A.cell 5
    have c_2_A_6 : w_2.cell? ⟨b_A, 6, none⟩ = some (.int .i64 f) := k_2_A.cell 6
    have l_2_A := k_2_A.lt
    have k_2_R : Blk w_2 b_R 51 #[.slice none 0 0, .int .i64 0, .int .i64 0, .int .i64 0, .int .i64 0, .int .i64 0, .int .i64 0] := Blk.step (by (with_reducible (repeat (first | assumption | exact Blk.new' (by simp) | apply Blk.drewN | apply Blk.drew | apply Blk.alloc | (refine Blk.far ?_ (by (try simp) <;> omega) _))))) hb_2
    have c_2_R_0 : w_2.cell? ⟨b_R, 0, none⟩ = some (.slice none 0 0) := k_2_R.cell 0
    have c_2_R_1 : w_2.cell? ⟨b_R, 1, none⟩ = some (.int .i64 0) := k_2_R.cell 1
    have c_2_R_2 : w_2.cell? ⟨b_R, 2, none⟩ = some (.int .i64 0) := k_2_R.cell 2
    have c_2_R_3 : w_2.cell? ⟨b_R, 3, none⟩ = some (.int .i64 0) := k_2_R.cell 3
    have c_2_R_4 : w_2.cell? ⟨b_R, 4, none⟩ = some (.int .i64 0) := k_2_R.cell 4
    have c_2_R_5 : w_2.cell? ⟨b_R, 5, none⟩ = some (.int .i64 0) := k_2_R.cell 5
    have c_2_R_6 : w_2.cell? ⟨b_R, 6, none⟩ = some (.int .i64 0) := k_2_R.cell 6
    have l_2_R := k_2_R.lt
    have z_2_R := k_2_R.frozen
    clear i_1 k_1_A c_1_A_0 c_1_A_1 c_1_A_2 c_1_A_3 c_1_A_4 c_1_A_5 c_1_A_6 l_1_A k_1_R c_1_R_0 c_1_R_1 c_1_R_2 c_1_R_3 c_1_R_4 c_1_R_5 c_1_R_6 l_1_R z_1_R hb_1
    have hn1_R_A : b_A ≠ b_R := by first | exact NB_A_R.out | exact NB_R_A.out.symm
    have hn2_R_A : b_R ≠ b_A := hn1_R_A.symm
    have kk : Blk (((((((w_2.setCell ⟨b_R, 0, none⟩ (.slice (some ⟨gE_2, 0, none⟩) n cE_2)).setCell ⟨b_R, 1, none⟩ (.int .i64 a)).setCell ⟨b_R, 2, none⟩ (.int .i64 b)).setCell ⟨b_R, 3, none⟩ (.int .i64 c)).setCell ⟨b_R, 4, none⟩ (.int .i64 d)).setCell ⟨b_R, 5, none⟩ (.int .i64 e)).setCell ⟨b_R, 6, none⟩ (.int .i64 f)) b_R 51 #[.slice (some ⟨gE_2, 0, none⟩) n cE_2, .int .i64 a, .int .i64 b, .int .i64 c, .int .i64 d, .int .i64 e, .int .i64 f] := by
      have h := (((((((k_2_R.set_ 0 (.slice (some ⟨gE_2, 0, none⟩) n cE_2)).set_ 1 (.int .i64 a)).set_ 2 (.int .i64 b)).set_ 3 (.int .i64 c)).set_ 4 (.int .i64 d)).set_ 5 (.int .i64 e)).set_ 6 (.int .i64 f))
      simpa using h
    have i9 : In w.heap.size w (((((((w_2.setCell ⟨b_R, 0, none⟩ (.slice (some ⟨gE_2, 0, none⟩) n cE_2)).setCell ⟨b_R, 1, none⟩ (.int .i64 a)).setCell ⟨b_R, 2, none⟩ (.int .i64 b)).setCell ⟨b_R, 3, none⟩ (.int .i64 c)).setCell ⟨b_R, 4, none⟩ (.int .i64 d)).setCell ⟨b_R, 5, none⟩ (.int .i64 e)).setCell ⟨b_R, 6, none⟩ (.int .i64 f)) := (In.set_ (In.set_ (In.set_ (In.set_ (In.set_ (In.set_ (In.set_ i_2 (p := ⟨b_R, 0, none⟩) hwb_R (.slice (some ⟨gE_2, 0, none⟩) n cE_2)) (p := ⟨b_R, 1, none⟩) hwb_R (.int .i64 a)) (p := ⟨b_R, 2, none⟩) hwb_R (.int .i64 b)) (p := ⟨b_R, 3, none⟩) hwb_R (.int .i64 c)) (p := ⟨b_R, 4, none⟩) hwb_R (.int .i64 d)) (p := ⟨b_R, 5, none⟩) hwb_R (.int .i64 e)) (p := ⟨b_R, 6, none⟩) hwb_R (.int .i64 f))
    have OE : Hid (OCEvent (((((((w_2.setCell ⟨b_R, 0, none⟩ (.slice (some ⟨gE_2, 0, none⟩) n cE_2)).setCell ⟨b_R, 1, none⟩ (.int .i64 a)).setCell ⟨b_R, 2, none⟩ (.int .i64 b)).setCell ⟨b_R, 3, none⟩ (.int .i64 c)).setCell ⟨b_R, 4, none⟩ (.int .i64 d)).setCell ⟨b_R, 5, none⟩ (.int .i64 e)).setCell ⟨b_R, 6, none⟩ (.int .i64 f)) gE_2 (n) cE_2 xs) := Lib.hid (OCEvent.far (OCEvent.far (OCEvent.far (OCEvent.far (OCEvent.far (OCEvent.far (OCEvent.far o_2_E k_2_R (by decide) (only_set ⟨b_R, 0, none⟩ (.slice (some ⟨gE_2, 0, none⟩) n cE_2))) (k_2_R.set_ 0 (.slice (some ⟨gE_2, 0, none⟩) n cE_2)) (by decide) (only_set ⟨b_R, 1, none⟩ (.int .i64 a))) ((k_2_R.set_ 0 (.slice (some ⟨gE_2, 0, none⟩) n cE_2)).set_ 1 (.int .i64 a)) (by decide) (only_set ⟨b_R, 2, none⟩ (.int .i64 b))) (((k_2_R.set_ 0 (.slice (some ⟨gE_2, 0, none⟩) n cE_2)).set_ 1 (.int .i64 a)).set_ 2 (.int .i64 b)) (by decide) (only_set ⟨b_R, 3, none⟩ (.int .i64 c))) ((((k_2_R.set_ 0 (.slice (some ⟨gE_2, 0, none⟩) n cE_2)).set_ 1 (.int .i64 a)).set_ 2 (.int .i64 b)).set_ 3 (.int .i64 c)) (by decide) (only_set ⟨b_R, 4, none⟩ (.int .i64 d))) (((((k_2_R.set_ 0 (.slice (some ⟨gE_2, 0, none⟩) n cE_2)).set_ 1 (.int .i64 a)).set_ 2 (.int .i64 b)).set_ 3 (.int .i64 c)).set_ 4 (.int .i64 d)) (by decide) (only_set ⟨b_R, 5, none⟩ (.int .i64 e))) ((((((k_2_R.set_ 0 (.slice (some ⟨gE_2, 0, none⟩) n cE_2)).set_ 1 (.int .i64 a)).set_ 2 (.int .i64 b)).set_ 3 (.int .i64 c)).set_ 4 (.int .i64 d)).set_ 5 (.int .i64 e)) (by decide) (only_set ⟨b_R, 6, none⟩ (.int .i64 f)))
    have HK0 : Hid ((((((((w_2.setCell ⟨b_R, 0, none⟩ (.slice (some ⟨gE_2, 0, none⟩) n cE_2)).setCell ⟨b_R, 1, none⟩ (.int .i64 a)).setCell ⟨b_R, 2, none⟩ (.int .i64 b)).setCell ⟨b_R, 3, none⟩ (.int .i64 c)).setCell ⟨b_R, 4, none⟩ (.int .i64 d)).setCell ⟨b_R, 5, none⟩ (.int .i64 e)).setCell ⟨b_R, 6, none⟩ (.int .i64 f)).cell? ⟨b_R, 0, none⟩ = some (.slice (some ⟨gE_2, 0, none⟩) n cE_2)) := Lib.hid (kk.cell 0)
    have HK1 : Hid ((((((((w_2.setCell ⟨b_R, 0, none⟩ (.slice (some ⟨gE_2, 0, none⟩) n cE_2)).setCell ⟨b_R, 1, none⟩ (.int .i64 a)).setCell ⟨b_R, 2, none⟩ (.int .i64 b)).setCell ⟨b_R, 3, none⟩ (.int .i64 c)).setCell ⟨b_R, 4, none⟩ (.int .i64 d)).setCell ⟨b_R, 5, none⟩ (.int .i64 e)).setCell ⟨b_R, 6, none⟩ (.int .i64 f)).cell? ⟨b_R, 1, none⟩ = some (.int .i64 a)) := Lib.hid (kk.cell 1)
    have HK2 : Hid ((((((((w_2.setCell ⟨b_R, 0, none⟩ (.slice (some ⟨gE_2, 0, none⟩) n cE_2)).setCell ⟨b_R, 1, none⟩ (.int .i64 a)).setCell ⟨b_R, 2, none⟩ (.int .i64 b)).setCell ⟨b_R, 3, none⟩ (.int .i64 c)).setCell ⟨b_R, 4, none⟩ (.int .i64 d)).setCell ⟨b_R, 5, none⟩ (.int .i64 e)).setCell ⟨b_R, 6, none⟩ (.int .i64 f)).cell? ⟨b_R, 2, none⟩ = some (.int .i64 b)) := Lib.hid (kk.cell 2)
    have HK3 : Hid ((((((((w_2.setCell ⟨b_R, 0, none⟩ (.slice (some ⟨gE_2, 0, none⟩) n cE_2)).setCell ⟨b_R, 1, none⟩ (.int .i64 a)).setCell ⟨b_R, 2, none⟩ (.int .i64 b)).setCell ⟨b_R, 3, none⟩ (.int .i64 c)).setCell ⟨b_R, 4, none⟩ (.int .i64 d)).setCell ⟨b_R, 5, none⟩ (.int .i64 e)).setCell ⟨b_R, 6, none⟩ (.int .i64 f)).cell? ⟨b_R, 3, none⟩ = some (.int .i64 c)) := Lib.hid (kk.cell 3)
    have HK4 : Hid ((((((((w_2.setCell ⟨b_R, 0, none⟩ (.slice (some ⟨gE_2, 0, none⟩) n cE_2)).setCell ⟨b_R, 1, none⟩ (.int .i64 a)).setCell ⟨b_R, 2, none⟩ (.int .i64 b)).setCell ⟨b_R, 3, none⟩ (.int .i64 c)).setCell ⟨b_R, 4, none⟩ (.int .i64 d)).setCell ⟨b_R, 5, none⟩ (.int .i64 e)).setCell ⟨b_R, 6, none⟩ (.int .i64 f)).cell? ⟨b_R, 4, none⟩ = some (.int .i64 d)) := Lib.hid (kk.cell 4)
    have HK5 : Hid ((((((((w_2.setCell ⟨b_R, 0, none⟩ (.slice (some ⟨gE_2, 0, none⟩) n cE_2)).setCell ⟨b_R, 1, none⟩ (.int .i64 a)).setCell ⟨b_R, 2, none⟩ (.int .i64 b)).setCell ⟨b_R, 3, none⟩ (.int .i64 c)).setCell ⟨b_R, 4, none⟩ (.int .i64 d)).setCell ⟨b_R, 5, none⟩ (.int .i64 e)).setCell ⟨b_R, 6, none⟩ (.int .i64 f)).cell? ⟨b_R, 5, none⟩ = some (.int .i64 e)) := Lib.hid (kk.cell 5)
    have HK6 : Hid ((((((((w_2.setCell ⟨b_R, 0, none⟩ (.slice (some ⟨gE_2, 0, none⟩) n cE_2)).setCell ⟨b_R, 1, none⟩ (.int .i64 a)).setCell ⟨b_R, 2, none⟩ (.int .i64 b)).setCell ⟨b_R, 3, none⟩ (.int .i64 c)).setCell ⟨b_R, 4, none⟩ (.int .i64 d)).setCell ⟨b_R, 5, none⟩ (.int .i64 e)).setCell ⟨b_R, 6, none⟩ (.int .i64 f)).cell? ⟨b_R, 6, none⟩ = some (.int .i64 f)) := Lib.hid (kk.cell 6)
    clear kk
    clear o_2_E
    go_wp2
    have hk0 := HK0.out
    have hk1 := HK1.out
    have hk2 := HK2.out
    have hk3 := HK3.out
    have hk4 := HK4.out
    have hk5 := HK5.out
    have hk6 := HK6.out
    exact bodyPost_ret (v := .tuple #[.agg #[.slice (some ⟨gE_2, 0, none⟩) n cE_2, .int .i64 a, .int .i64 b, .int .i64 c, .int .i64 d, .int .i64 e, .int .i64 f], .bool false]) (by simp [results, Try.results40, go_sem, hk0, hk1, hk2, hk3, hk4, hk5, hk6]) rfl (rowBkV_of (s := ⟨a, b, c, d, e, f⟩) (by simp [skL, HV.out]) (by simp [skS, HV.out]) (by rw [HV.out]) OE.out GX_E.out i9.below)
  cases n with
  | zero =>
    have HV : Hid (skB 0 xs a b c d e f = false) := Lib.hid (by simp [skB])
    go_wp2_with fail
    refine (s37Copy ga 0 ca xs a b c d e f _ (by omega) (HX.out.in_ (by (repeat (first | exact In.refl _ | assumption | apply In.alloc | apply In.drewN | apply In.drew | (refine In.step ?_ (by assumption))))))).mono ?_
    rintro _ w_2 ⟨gE_2, cE_2, rfl, hoE_2, hgE_2, hb_2⟩
    have GX_E : Hid (w.heap.size ≤ gE_2) := Lib.hid (by have h1 := hgE_2; (try simp at h1); have h2 := In.size i_1; omega)
    have o_2_E : OCEvent w_2 gE_2 (0) cE_2 xs := hoE_2
    clear hoE_2 hgE_2
    have i_2 : In w.heap.size w w_2 := In.step (by (repeat (first | exact In.refl _ | assumption | apply In.alloc | apply In.drewN | apply In.drew | (refine In.step ?_ (by assumption))))) hb_2
    have k_2_A : Blk w_2 b_A 51 #[.slice (some ⟨ga, 0, none⟩) 0 ca, .int .i64 a, .int .i64 b, .int .i64 c, .int .i64 d, .int .i64 e, .int .i64 f] := Blk.step (by (with_reducible (repeat (first | assumption | exact Blk.new' (by simp) | apply Blk.drewN | apply Blk.drew | apply Blk.alloc | (refine Blk.far ?_ (by (try simp) <;> omega) _))))) hb_2
    have c_2_A_0 : w_2.cell? ⟨b_A, 0, none⟩ = some (.slice (some ⟨ga, 0, none⟩) 0 ca) := k_2_A.cell 0
    have c_2_A_1 : w_2.cell? ⟨b_A, 1, none⟩ = some (.int .i64 a) := k_2_A.cell 1
    have c_2_A_2 : w_2.cell? ⟨b_A, 2, none⟩ = some (.int .i64 b) := k_2_A.cell 2
    have c_2_A_3 : w_2.cell? ⟨b_A, 3, none⟩ = some (.int .i64 c) := k_2_A.cell 3
    have c_2_A_4 : w_2.cell? ⟨b_A, 4, none⟩ = some (.int .i64 d) := k_2_A.cell 4
    have c_2_A_5 : w_2.cell? ⟨b_A, 5, none⟩ = some (.int .i64 e) := k_2_A.cell 5
    have c_2_A_6 : w_2.cell? ⟨b_A, 6, none⟩ = some (.int .i64 f) := k_2_A.cell 6
    have l_2_A := k_2_A.lt
    have k_2_R : Blk w_2 b_R 51 #[.slice none 0 0, .int .i64 0, .int .i64 0, .int .i64 0, .int .i64 0, .int .i64 0, .int .i64 0] := Blk.step (by (with_reducible (repeat (first | assumption | exact Blk.new' (by simp) | apply Blk.drewN | apply Blk.drew | apply Blk.alloc | (refine Blk.far ?_ (by (try simp) <;> omega) _))))) hb_2
    have c_2_R_0 : w_2.cell? ⟨b_R, 0, none⟩ = some (.slice none 0 0) := k_2_R.cell 0
    have c_2_R_1 : w_2.cell? ⟨b_R, 1, none⟩ = some (.int .i64 0) := k_2_R.cell 1
    have c_2_R_2 : w_2.cell? ⟨b_R, 2, none⟩ = some (.int .i64 0) := k_2_R.cell 2
    have c_2_R_3 : w_2.cell? ⟨b_R, 3, none⟩ = some (.int .i64 0) := k_2_R.cell 3
    have c_2_R_4 : w_2.cell? ⟨b_R, 4, none⟩ = some (.int .i64 0) := k_2_R.cell 4
    have c_2_R_5 : w_2.cell? ⟨b_R, 5, none⟩ = some (.int .i64 0) := k_2_R.cell 5
    have c_2_R_6 : w_2.cell? ⟨b_R, 6, none⟩ = some (.int .i64 0) := k_2_R.cell 6
    have l_2_R := k_2_R.lt
    have z_2_R := k_2_R.frozen
    clear i_1 k_1_A c_1_A_0 c_1_A_1 c_1_A_2 c_1_A_3 c_1_A_4 c_1_A_5 c_1_A_6 l_1_A k_1_R c_1_R_0 c_1_R_1 c_1_R_2 c_1_R_3 c_1_R_4 c_1_R_5 c_1_R_6 l_1_R z_1_R hb_1
    have hn1_R_A : b_A ≠ b_R := by first | exact NB_A_R.out | exact NB_R_A.out.symm
    have hn2_R_A : b_R ≠ b_A := hn1_R_A.symm
    have kk : Blk (((((((w_2.setCell ⟨b_R, 0, none⟩ (.slice (some ⟨gE_2, 0, none⟩) 0 cE_2)).setCell ⟨b_R, 1, none⟩ (.int .i64 a)).setCell ⟨b_R, 2, none⟩ (.int .i64 b)).setCell ⟨b_R, 3, none⟩ (.int .i64 c)).setCell ⟨b_R, 4, none⟩ (.int .i64 d)).setCell ⟨b_R, 5, none⟩ (.int .i64 e)).setCell ⟨b_R, 6, none⟩ (.int .i64 f)) b_R 51 #[.slice (some ⟨gE_2, 0, none⟩) 0 cE_2, .int .i64 a, .int .i64 b, .int .i64 c, .int .i64 d, .int .i64 e, .int .i64 f] := by
      have h := (((((((k_2_R.set_ 0 (.slice (some ⟨gE_2, 0, none⟩) 0 cE_2)).set_ 1 (.int .i64 a)).set_ 2 (.int .i64 b)).set_ 3 (.int .i64 c)).set_ 4 (.int .i64 d)).set_ 5 (.int .i64 e)).set_ 6 (.int .i64 f))
      simpa using h
    have i9 : In w.heap.size w (((((((w_2.setCell ⟨b_R, 0, none⟩ (.slice (some ⟨gE_2, 0, none⟩) 0 cE_2)).setCell ⟨b_R, 1, none⟩ (.int .i64 a)).setCell ⟨b_R, 2, none⟩ (.int .i64 b)).setCell ⟨b_R, 3, none⟩ (.int .i64 c)).setCell ⟨b_R, 4, none⟩ (.int .i64 d)).setCell ⟨b_R, 5, none⟩ (.int .i64 e)).setCell ⟨b_R, 6, none⟩ (.int .i64 f)) := (In.set_ (In.set_ (In.set_ (In.set_ (In.set_ (In.set_ (In.set_ i_2 (p := ⟨b_R, 0, none⟩) hwb_R (.slice (some ⟨gE_2, 0, none⟩) 0 cE_2)) (p := ⟨b_R, 1, none⟩) hwb_R (.int .i64 a)) (p := ⟨b_R, 2, none⟩) hwb_R (.int .i64 b)) (p := ⟨b_R, 3, none⟩) hwb_R (.int .i64 c)) (p := ⟨b_R, 4, none⟩) hwb_R (.int .i64 d)) (p := ⟨b_R, 5, none⟩) hwb_R (.int .i64 e)) (p := ⟨b_R, 6, none⟩) hwb_R (.int .i64 f))
    have OE : Hid (OCEvent (((((((w_2.setCell ⟨b_R, 0, none⟩ (.slice (some ⟨gE_2, 0, none⟩) 0 cE_2)).setCell ⟨b_R, 1, none⟩ (.int .i64 a)).setCell ⟨b_R, 2, none⟩ (.int .i64 b)).setCell ⟨b_R, 3, none⟩ (.int .i64 c)).setCell ⟨b_R, 4, none⟩ (.int .i64 d)).setCell ⟨b_R, 5, none⟩ (.int .i64 e)).setCell ⟨b_R, 6, none⟩ (.int .i64 f)) gE_2 (0) cE_2 xs) := Lib.hid (OCEvent.far (OCEvent.far (OCEvent.far (OCEvent.far (OCEvent.far (OCEvent.far (OCEvent.far o_2_E k_2_R (by decide) (only_set ⟨b_R, 0, none⟩ (.slice (some ⟨gE_2, 0, none⟩) 0 cE_2))) (k_2_R.set_ 0 (.slice (some ⟨gE_2, 0, none⟩) 0 cE_2)) (by decide) (only_set ⟨b_R, 1, none⟩ (.int .i64 a))) ((k_2_R.set_ 0 (.slice (some ⟨gE_2, 0, none⟩) 0 cE_2)).set_ 1 (.int .i64 a)) (by decide) (only_set ⟨b_R, 2, none⟩ (.int .i64 b))) (((k_2_R.set_ 0 (.slice (some ⟨gE_2, 0, none⟩) 0 cE_2)).set_ 1 (.int .i64 a)).set_ 2 (.int .i64 b)) (by decide) (only_set ⟨b_R, 3, none⟩ (.int .i64 c))) ((((k_2_R.set_ 0 (.slice (some ⟨gE_2, 0, none⟩) 0 cE_2)).set_ 1 (.int .i64 a)).set_ 2 (.int .i64 b)).set_ 3 (.int .i64 c)) (by decide) (only_set ⟨b_R, 4, none⟩ (.int .i64 d))) (((((k_2_R.set_ 0 (.slice (some ⟨gE_2, 0, none⟩) 0 cE_2)).set_ 1 (.int .i64 a)).set_ 2 (.int .i64 b)).set_ 3 (.int .i64 c)).set_ 4 (.int .i64 d)) (by decide) (only_set ⟨b_R, 5, none⟩ (.int .i64 e))) ((((((k_2_R.set_ 0 (.slice (some ⟨gE_2, 0, none⟩) 0 cE_2)).set_ 1 (.int .i64 a)).set_ 2 (.int .i64 b)).set_ 3 (.int .i64 c)).set_ 4 (.int .i64 d)).set_ 5 (.int .i64 e)) (by decide) (only_set ⟨b_R, 6, none⟩ (.int .i64 f)))
    have HK0 : Hid ((((((((w_2.setCell ⟨b_R, 0, none⟩ (.slice (some ⟨gE_2, 0, none⟩) 0 cE_2)).setCell ⟨b_R, 1, none⟩ (.int .i64 a)).setCell ⟨b_R, 2, none⟩ (.int .i64 b)).setCell ⟨b_R, 3, none⟩ (.int .i64 c)).setCell ⟨b_R, 4, none⟩ (.int .i64 d)).setCell ⟨b_R, 5, none⟩ (.int .i64 e)).setCell ⟨b_R, 6, none⟩ (.int .i64 f)).cell? ⟨b_R, 0, none⟩ = some (.slice (some ⟨gE_2, 0, none⟩) 0 cE_2)) := Lib.hid (kk.cell 0)
    have HK1 : Hid ((((((((w_2.setCell ⟨b_R, 0, none⟩ (.slice (some ⟨gE_2, 0, none⟩) 0 cE_2)).setCell ⟨b_R, 1, none⟩ (.int .i64 a)).setCell ⟨b_R, 2, none⟩ (.int .i64 b)).setCell ⟨b_R, 3, none⟩ (.int .i64 c)).setCell ⟨b_R, 4, none⟩ (.int .i64 d)).setCell ⟨b_R, 5, none⟩ (.int .i64 e)).setCell ⟨b_R, 6, none⟩ (.int .i64 f)).cell? ⟨b_R, 1, none⟩ = some (.int .i64 a)) := Lib.hid (kk.cell 1)
    have HK2 : Hid ((((((((w_2.setCell ⟨b_R, 0, none⟩ (.slice (some ⟨gE_2, 0, none⟩) 0 cE_2)).setCell ⟨b_R, 1, none⟩ (.int .i64 a)).setCell ⟨b_R, 2, none⟩ (.int .i64 b)).setCell ⟨b_R, 3, none⟩ (.int .i64 c)).setCell ⟨b_R, 4, none⟩ (.int .i64 d)).setCell ⟨b_R, 5, none⟩ (.int .i64 e)).setCell ⟨b_R, 6, none⟩ (.int .i64 f)).cell? ⟨b_R, 2, none⟩ = some (.int .i64 b)) := Lib.hid (kk.cell 2)
    have HK3 : Hid ((((((((w_2.setCell ⟨b_R, 0, none⟩ (.slice (some ⟨gE_2, 0, none⟩) 0 cE_2)).setCell ⟨b_R, 1, none⟩ (.int .i64 a)).setCell ⟨b_R, 2, none⟩ (.int .i64 b)).setCell ⟨b_R, 3, none⟩ (.int .i64 c)).setCell ⟨b_R, 4, none⟩ (.int .i64 d)).setCell ⟨b_R, 5, none⟩ (.int .i64 e)).setCell ⟨b_R, 6, none⟩ (.int .i64 f)).cell? ⟨b_R, 3, none⟩ = some (.int .i64 c)) := Lib.hid (kk.cell 3)
    have HK4 : Hid ((((((((w_2.setCell ⟨b_R, 0, none⟩ (.slice (some ⟨gE_2, 0, none⟩) 0 cE_2)).setCell ⟨b_R, 1, none⟩ (.int .i64 a)).setCell ⟨b_R, 2, none⟩ (.int .i64 b)).setCell ⟨b_R, 3, none⟩ (.int .i64 c)).setCell ⟨b_R, 4, none⟩ (.int .i64 d)).setCell ⟨b_R, 5, none⟩ (.int .i64 e)).setCell ⟨b_R, 6, none⟩ (.int .i64 f)).cell? ⟨b_R, 4, none⟩ = some (.int .i64 d)) := Lib.hid (kk.cell 4)
    have HK5 : Hid ((((((((w_2.setCell ⟨b_R, 0, none⟩ (.slice (some ⟨gE_2, 0, none⟩) 0 cE_2)).setCell ⟨b_R, 1, none⟩ (.int .i64 a)).setCell ⟨b_R, 2, none⟩ (.int .i64 b)).setCell ⟨b_R, 3, none⟩ (.int .i64 c)).setCell ⟨b_R, 4, none⟩ (.int .i64 d)).setCell ⟨b_R, 5, none⟩ (.int .i64 e)).setCell ⟨b_R, 6, none⟩ (.int .i64 f)).cell? ⟨b_R, 5, none⟩ = some (.int .i64 e)) := Lib.hid (kk.cell 5)
    have HK6 : Hid ((((((((w_2.setCell ⟨b_R, 0, none⟩ (.slice (some ⟨gE_2, 0, none⟩) 0 cE_2)).setCell ⟨b_R, 1, none⟩ (.int .i64 a)).setCell ⟨b_R, 2, none⟩ (.int .i64 b)).setCell ⟨b_R, 3, none⟩ (.int .i64 c)).setCell ⟨b_R, 4, none⟩ (.int .i64 d)).setCell ⟨b_R, 5, none⟩ (.int .i64 e)).setCell ⟨b_R, 6, none⟩ (.int .i64 f)).cell? ⟨b_R, 6, none⟩ = some (.int .i64 f)) := Lib.hid (kk.cell 6)
    clear kk
    clear o_2_E
    go_wp2
    have hk0 := HK0.out
    have hk1 := HK1.out
    have hk2 := HK2.out
    have hk3 := HK3.out
    have hk4 := HK4.out
    have hk5 := HK5.out
    have hk6 := HK6.out
    exact bodyPost_ret (v := .tuple #[.agg #[.slice (some ⟨gE_2, 0, none⟩) 0 cE_2, .int .i64 a, .int .i64 b, .int .i64 c, .int .i64 d, .int .i64 e, .int .i64 f], .bool false]) (by simp [results, Try.results40, go_sem, hk0, hk1, hk2, hk3, hk4, hk5, hk6]) rfl (rowBkV_of (s := ⟨a, b, c, d, e, f⟩) (by simp [skL, HV.out]) (by simp [skS, HV.out]) (by rw [HV.out]) OE.out GX_E.out i9.below)
  | succ m =>
    obtain ⟨h40, hcnt, hst⟩ := bk_at h1
    have HV : Hid (skB (m + 1) xs a b c d e f = true) := Lib.hid (by simp [skB, h1])
    have hwr : wrap64 (((m + 1 : Nat) : Int) - 1) = (m : Int) := by rw [w64 (by omega)]; omega
    have hsl := fun (W : World) => slHiE (some ⟨ga, 0, none⟩) (m + 1) ca m (by omega) W
    have HCN := Lib.hid (cntB_take (m := m) (by omega) hcnt)
    have h40i : (m : Int) ≤ 39 := by omega
    have HR := Lib.hid (reads_hiE HX.out m (by omega))
    clear hn h40 hcnt hst h1 hc
    go_wp2_with fail
    refine (s37Count ga m ca (xs.take m) _ (by omega) (HR.out.in_ (by (repeat (first | exact In.refl _ | assumption | apply In.alloc | apply In.drewN | apply In.drew | (refine In.step ?_ (by assumption))))))).mono ?_
    rintro _ w_2 ⟨gE_2, cE_2, s, rfl, hs9, hoE_2, hgE_2, hb_2⟩
    obtain rfl := hs9 (by rw [HCN.out]; simp; omega)
    rw [stTo_take]
    clear hs9
    have GX_E : Hid (w.heap.size ≤ gE_2) := Lib.hid (by have h1 := hgE_2; (try simp at h1); have h2 := In.size i_1; omega)
    have o_2_E : OCEvent w_2 gE_2 (m) cE_2 (xs.take m) := hoE_2
    clear hoE_2 hgE_2
    have i_2 : In w.heap.size w w_2 := In.step (by (repeat (first | exact In.refl _ | assumption | apply In.alloc | apply In.drewN | apply In.drew | (refine In.step ?_ (by assumption))))) hb_2
    have k_2_A : Blk w_2 b_A 51 #[.slice (some ⟨ga, 0, none⟩) (m + 1) ca, .int .i64 a, .int .i64 b, .int .i64 c, .int .i64 d, .int .i64 e, .int .i64 f] := Blk.step (by (with_reducible (repeat (first | assumption | exact Blk.new' (by simp) | apply Blk.drewN | apply Blk.drew | apply Blk.alloc | (refine Blk.far ?_ (by (try simp) <;> omega) _))))) hb_2
    have c_2_A_0 : w_2.cell? ⟨b_A, 0, none⟩ = some (.slice (some ⟨ga, 0, none⟩) (m + 1) ca) := k_2_A.cell 0
    have c_2_A_1 : w_2.cell? ⟨b_A, 1, none⟩ = some (.int .i64 a) := k_2_A.cell 1
    have c_2_A_2 : w_2.cell? ⟨b_A, 2, none⟩ = some (.int .i64 b) := k_2_A.cell 2
    have c_2_A_3 : w_2.cell? ⟨b_A, 3, none⟩ = some (.int .i64 c) := k_2_A.cell 3
    have c_2_A_4 : w_2.cell? ⟨b_A, 4, none⟩ = some (.int .i64 d) := k_2_A.cell 4
    have c_2_A_5 : w_2.cell? ⟨b_A, 5, none⟩ = some (.int .i64 e) := k_2_A.cell 5
    have c_2_A_6 : w_2.cell? ⟨b_A, 6, none⟩ = some (.int .i64 f) := k_2_A.cell 6
    have l_2_A := k_2_A.lt
    have k_2_R : Blk w_2 b_R 51 #[.slice none 0 0, .int .i64 0, .int .i64 0, .int .i64 0, .int .i64 0, .int .i64 0, .int .i64 0] := Blk.step (by (with_reducible (repeat (first | assumption | exact Blk.new' (by simp) | apply Blk.drewN | apply Blk.drew | apply Blk.alloc | (refine Blk.far ?_ (by (try simp) <;> omega) _))))) hb_2
    have c_2_R_0 : w_2.cell? ⟨b_R, 0, none⟩ = some (.slice none 0 0) := k_2_R.cell 0
    have c_2_R_1 : w_2.cell? ⟨b_R, 1, none⟩ = some (.int .i64 0) := k_2_R.cell 1
    have c_2_R_2 : w_2.cell? ⟨b_R, 2, none⟩ = some (.int .i64 0) := k_2_R.cell 2
    have c_2_R_3 : w_2.cell? ⟨b_R, 3, none⟩ = some (.int .i64 0) := k_2_R.cell 3
    have c_2_R_4 : w_2.cell? ⟨b_R, 4, none⟩ = some (.int .i64 0) := k_2_R.cell 4
    have c_2_R_5 : w_2.cell? ⟨b_R, 5, none⟩ = some (.int .i64 0) := k_2_R.cell 5
    have c_2_R_6 : w_2.cell? ⟨b_R, 6, none⟩ = some (.int .i64 0) := k_2_R.cell 6
    have l_2_R := k_2_R.lt
    have z_2_R := k_2_R.frozen
    clear i_1 k_1_A c_1_A_0 c_1_A_1 c_1_A_2 c_1_A_3 c_1_A_4 c_1_A_5 c_1_A_6 l_1_A k_1_R c_1_R_0 c_1_R_1 c_1_R_2 c_1_R_3 c_1_R_4 c_1_R_5 c_1_R_6 l_1_R z_1_R hb_1
    generalize hs9 : stTo xs m = s
    have HS := Lib.hid hs9
    clear hs9
    simp only []
    iterate 22 go_step
    obtain ⟨b_N, hbx_N⟩ : ∃ b, b = w_2.heap.size := ⟨_, rfl⟩
    rw [← hbx_N]
    have hwb_N : w.heap.size ≤ b_N := by have h := In.size i_2; omega
    have NB_A_N : Hid (b_A ≠ b_N) := Lib.hid (by have h := k_2_A.lt; omega)
    have NB_R_N : Hid (b_R ≠ b_N) := Lib.hid (by have h := k_2_R.lt; omega)
    have hb_3 : Below w_2.heap.size w_2 (w_2.alloc (.cells #[.slice (some ⟨gE_2, 0, none⟩) m cE_2, .int .i64 s.r0, .int .i64 s.r1, .int .i64 s.r2, .int .i64 s.bk, .int .i64 s.sd, .int .i64 s.th] 51)) := (Below.refl _ _).alloc (Nat.le_refl _) _
    have kk_3 : Blk (w_2.alloc (.cells #[.slice (some ⟨gE_2, 0, none⟩) m cE_2, .int .i64 s.r0, .int .i64 s.r1, .int .i64 s.r2, .int .i64 s.bk, .int .i64 s.sd, .int .i64 s.th] 51)) b_N 51 #[.slice (some ⟨gE_2, 0, none⟩) m cE_2, .int .i64 s.r0, .int .i64 s.r1, .int .i64 s.r2, .int .i64 s.bk, .int .i64 s.sd, .int .i64 s.th] := Blk.new' hbx_N
    clear hbx_N
    generalize (w_2.alloc (.cells #[.slice (some ⟨gE_2, 0, none⟩) m cE_2, .int .i64 s.r0, .int .i64 s.r1, .int .i64 s.r2, .int .i64 s.bk, .int .i64 s.sd, .int .i64 s.th] 51)) = w_3 at *
    have i_3 : In w.heap.size w w_3 := In.step (by (repeat (first | exact In.refl _ | assumption | apply In.alloc | apply In.drewN | apply In.drew | (refine In.step ?_ (by assumption))))) hb_3
    have k_3_A : Blk w_3 b_A 51 #[.slice (some ⟨ga, 0, none⟩) (m + 1) ca, .int .i64 a, .int .i64 b, .int .i64 c, .int .i64 d, .int .i64 e, .int .i64 f] := Blk.step (by (with_reducible (repeat (first | assumption | exact Blk.new' (by simp) | apply Blk.drewN | apply Blk.drew | apply Blk.alloc | (refine Blk.far ?_ (by (try simp) <;> omega) _))))) hb_3
    have c_3_A_0 : w_3.cell? ⟨b_A, 0, none⟩ = some (.slice (some ⟨ga, 0, none⟩) (m + 1) ca) := k_3_A.cell 0
    have c_3_A_1 : w_3.cell? ⟨b_A, 1, none⟩ = some (.int .i64 a) := k_3_A.cell 1
    have c_3_A_2 : w_3.cell? ⟨b_A, 2, none⟩ = some (.int .i64 b) := k_3_A.cell 2
    have c_3_A_3 : w_3.cell? ⟨b_A, 3, none⟩ = some (.int .i64 c) := k_3_A.cell 3
    have c_3_A_4 : w_3.cell? ⟨b_A, 4, none⟩ = some (.int .i64 d) := k_3_A.cell 4
    have c_3_A_5 : w_3.cell? ⟨b_A, 5, none⟩ = some (.int .i64 e) := k_3_A.cell 5
    have c_3_A_6 : w_3.cell? ⟨b_A, 6, none⟩ = some (.int .i64 f) := k_3_A.cell 6
    have l_3_A := k_3_A.lt
    have k_3_R : Blk w_3 b_R 51 #[.slice none 0 0, .int .i64 0, .int .i64 0, .int .i64 0, .int .i64 0, .int .i64 0, .int .i64 0] := Blk.step (by (with_reducible (repeat (first | assumption | exact Blk.new' (by simp) | apply Blk.drewN | apply Blk.drew | apply Blk.alloc | (refine Blk.far ?_ (by (try simp) <;> omega) _))))) hb_3
    have c_3_R_0 : w_3.cell? ⟨b_R, 0, none⟩ = some (.slice none 0 0) := k_3_R.cell 0
    have c_3_R_1 : w_3.cell? ⟨b_R, 1, none⟩ = some (.int .i64 0) := k_3_R.cell 1
    have c_3_R_2 : w_3.cell? ⟨b_R, 2, none⟩ = some (.int .i64 0) := k_3_R.cell 2
    have c_3_R_3 : w_3.cell? ⟨b_R, 3, none⟩ = some (.int .i64 0) := k_3_R.cell 3
    have c_3_R_4 : w_3.cell? ⟨b_R, 4, none⟩ = some (.int .i64 0) := k_3_R.cell 4
    have c_3_R_5 : w_3.cell? ⟨b_R, 5, none⟩ = some (.int .i64 0) := k_3_R.cell 5
    have c_3_R_6 : w_3.cell? ⟨b_R, 6, none⟩ = some (.int .i64 0) := k_3_R.cell 6
    have l_3_R := k_3_R.lt
    have z_3_R := k_3_R.frozen
    have k_3_N : Blk w_3 b_N 51 #[.slice (some ⟨gE_2, 0, none⟩) m cE_2, .int .i64 s.r0, .int .i64 s.r1, .int .i64 s.r2, .int .i64 s.bk, .int .i64 s.sd, .int .i64 s.th] := kk_3
    have c_3_N_0 : w_3.cell? ⟨b_N, 0, none⟩ = some (.slice (some ⟨gE_2, 0, none⟩) m cE_2) := k_3_N.cell 0
    have c_3_N_1 : w_3.cell? ⟨b_N, 1, none⟩ = some (.int .i64 s.r0) := k_3_N.cell 1
    have c_3_N_2 : w_3.cell? ⟨b_N, 2, none⟩ = some (.int .i64 s.r1) := k_3_N.cell 2
    have c_3_N_3 : w_3.cell? ⟨b_N, 3, none⟩ = some (.int .i64 s.r2) := k_3_N.cell 3
    have c_3_N_4 : w_3.cell? ⟨b_N, 4, none⟩ = some (.int .i64 s.bk) := k_3_N.cell 4
    have c_3_N_5 : w_3.cell? ⟨b_N, 5, none⟩ = some (.int .i64 s.sd) := k_3_N.cell 5
    have c_3_N_6 : w_3.cell? ⟨b_N, 6, none⟩ = some (.int .i64 s.th) := k_3_N.cell 6
    have l_3_N := k_3_N.lt
    have o_3_E : OCEvent w_3 gE_2 (m) cE_2 (xs.take m) := OCEvent.step (by with_reducible (repeat (first | assumption | apply OCEvent.drewN | apply OCEvent.drew | apply OCEvent.alloc))) hb_3
    clear i_2 k_2_A c_2_A_0 c_2_A_1 c_2_A_2 c_2_A_3 c_2_A_4 c_2_A_5 c_2_A_6 l_2_A k_2_R c_2_R_0 c_2_R_1 c_2_R_2 c_2_R_3 c_2_R_4 c_2_R_5 c_2_R_6 l_2_R z_2_R o_2_E hb_2
    clear kk_3
    have hn1_R_A : b_A ≠ b_R := by first | exact NB_A_R.out | exact NB_R_A.out.symm
    have hn2_R_A : b_R ≠ b_A := hn1_R_A.symm
    have hn1_R_N : b_N ≠ b_R := by first | exact NB_N_R.out | exact NB_R_N.out.symm
    have hn2_R_N : b_R ≠ b_N := hn1_R_N.symm
    have kk : Blk (((((((w_3.setCell ⟨b_R, 0, none⟩ (.slice (some ⟨gE_2, 0, none⟩) m cE_2)).setCell ⟨b_R, 1, none⟩ (.int .i64 s.r0)).setCell ⟨b_R, 2, none⟩ (.int .i64 s.r1)).setCell ⟨b_R, 3, none⟩ (.int .i64 s.r2)).setCell ⟨b_R, 4, none⟩ (.int .i64 s.bk)).setCell ⟨b_R, 5, none⟩ (.int .i64 s.sd)).setCell ⟨b_R, 6, none⟩ (.int .i64 s.th)) b_R 51 #[.slice (some ⟨gE_2, 0, none⟩) m cE_2, .int .i64 s.r0, .int .i64 s.r1, .int .i64 s.r2, .int .i64 s.bk, .int .i64 s.sd, .int .i64 s.th] := by
      have h := (((((((k_3_R.set_ 0 (.slice (some ⟨gE_2, 0, none⟩) m cE_2)).set_ 1 (.int .i64 s.r0)).set_ 2 (.int .i64 s.r1)).set_ 3 (.int .i64 s.r2)).set_ 4 (.int .i64 s.bk)).set_ 5 (.int .i64 s.sd)).set_ 6 (.int .i64 s.th))
      simpa using h
    have i9 : In w.heap.size w (((((((w_3.setCell ⟨b_R, 0, none⟩ (.slice (some ⟨gE_2, 0, none⟩) m cE_2)).setCell ⟨b_R, 1, none⟩ (.int .i64 s.r0)).setCell ⟨b_R, 2, none⟩ (.int .i64 s.r1)).setCell ⟨b_R, 3, none⟩ (.int .i64 s.r2)).setCell ⟨b_R, 4, none⟩ (.int .i64 s.bk)).setCell ⟨b_R, 5, none⟩ (.int .i64 s.sd)).setCell ⟨b_R, 6, none⟩ (.int .i64 s.th)) := (In.set_ (In.set_ (In.set_ (In.set_ (In.set_ (In.set_ (In.set_ i_3 (p := ⟨b_R, 0, none⟩) hwb_R (.slice (some ⟨gE_2, 0, none⟩) m cE_2)) (p := ⟨b_R, 1, none⟩) hwb_R (.int .i64 s.r0)) (p := ⟨b_R, 2, none⟩) hwb_R (.int .i64 s.r1)) (p := ⟨b_R, 3, none⟩) hwb_R (.int .i64 s.r2)) (p := ⟨b_R, 4, none⟩) hwb_R (.int .i64 s.bk)) (p := ⟨b_R, 5, none⟩) hwb_R (.int .i64 s.sd)) (p := ⟨b_R, 6, none⟩) hwb_R (.int .i64 s.th))
    have OE : Hid (OCEvent (((((((w_3.setCell ⟨b_R, 0, none⟩ (.slice (some ⟨gE_2, 0, none⟩) m cE_2)).setCell ⟨b_R, 1, none⟩ (.int .i64 s.r0)).setCell ⟨b_R, 2, none⟩ (.int .i64 s.r1)).setCell ⟨b_R, 3, none⟩ (.int .i64 s.r2)).setCell ⟨b_R, 4, none⟩ (.int .i64 s.bk)).setCell ⟨b_R, 5, none⟩ (.int .i64 s.sd)).setCell ⟨b_R, 6, none⟩ (.int .i64 s.th)) gE_2 (m) cE_2 (xs.take m)) := Lib.hid (OCEvent.far (OCEvent.far (OCEvent.far (OCEvent.far (OCEvent.far (OCEvent.far (OCEvent.far o_3_E k_3_R (by decide) (only_set ⟨b_R, 0, none⟩ (.slice (some ⟨gE_2, 0, none⟩) m cE_2))) (k_3_R.set_ 0 (.slice (some ⟨gE_2, 0, none⟩) m cE_2)) (by decide) (only_set ⟨b_R, 1, none⟩ (.int .i64 s.r0))) ((k_3_R.set_ 0 (.slice (some ⟨gE_2, 0, none⟩) m cE_2)).set_ 1 (.int .i64 s.r0)) (by decide) (only_set ⟨b_R, 2, none⟩ (.int .i64 s.r1))) (((k_3_R.set_ 0 (.slice (some ⟨gE_2, 0, none⟩) m cE_2)).set_ 1 (.int .i64 s.r0)).set_ 2 (.int .i64 s.r1)) (by decide) (only_set ⟨b_R, 3, none⟩ (.int .i64 s.r2))) ((((k_3_R.set_ 0 (.slice (some ⟨gE_2, 0, none⟩) m cE_2)).set_ 1 (.int .i64 s.r0)).set_ 2 (.int .i64 s.r1)).set_ 3 (.int .i64 s.r2)) (by decide) (only_set ⟨b_R, 4, none⟩ (.int .i64 s.bk))) (((((k_3_R.set_ 0 (.slice (some ⟨gE_2, 0, none⟩) m cE_2)).set_ 1 (.int .i64 s.r0)).set_ 2 (.int .i64 s.r1)).set_ 3 (.int .i64 s.r2)).set_ 4 (.int .i64 s.bk)) (by decide) (only_set ⟨b_R, 5, none⟩ (.int .i64 s.sd))) ((((((k_3_R.set_ 0 (.slice (some ⟨gE_2, 0, none⟩) m cE_2)).set_ 1 (.int .i64 s.r0)).set_ 2 (.int .i64 s.r1)).set_ 3 (.int .i64 s.r2)).set_ 4 (.int .i64 s.bk)).set_ 5 (.int .i64 s.sd)) (by decide) (only_set ⟨b_R, 6, none⟩ (.int .i64 s.th)))
    have HK0 : Hid ((((((((w_3.setCell ⟨b_R, 0, none⟩ (.slice (some ⟨gE_2, 0, none⟩) m cE_2)).setCell ⟨b_R, 1, none⟩ (.int .i64 s.r0)).setCell ⟨b_R, 2, none⟩ (.int .i64 s.r1)).setCell ⟨b_R, 3, none⟩ (.int .i64 s.r2)).setCell ⟨b_R, 4, none⟩ (.int .i64 s.bk)).setCell ⟨b_R, 5, none⟩ (.int .i64 s.sd)).setCell ⟨b_R, 6, none⟩ (.int .i64 s.th)).cell? ⟨b_R, 0, none⟩ = some (.slice (some ⟨gE_2, 0, none⟩) m cE_2)) := Lib.hid (kk.cell 0)
    have HK1 : Hid ((((((((w_3.setCell ⟨b_R, 0, none⟩ (.slice (some ⟨gE_2, 0, none⟩) m cE_2)).setCell ⟨b_R, 1, none⟩ (.int .i64 s.r0)).setCell ⟨b_R, 2, none⟩ (.int .i64 s.r1)).setCell ⟨b_R, 3, none⟩ (.int .i64 s.r2)).setCell ⟨b_R, 4, none⟩ (.int .i64 s.bk)).setCell ⟨b_R, 5, none⟩ (.int .i64 s.sd)).setCell ⟨b_R, 6, none⟩ (.int .i64 s.th)).cell? ⟨b_R, 1, none⟩ = some (.int .i64 s.r0)) := Lib.hid (kk.cell 1)
    have HK2 : Hid ((((((((w_3.setCell ⟨b_R, 0, none⟩ (.slice (some ⟨gE_2, 0, none⟩) m cE_2)).setCell ⟨b_R, 1, none⟩ (.int .i64 s.r0)).setCell ⟨b_R, 2, none⟩ (.int .i64 s.r1)).setCell ⟨b_R, 3, none⟩ (.int .i64 s.r2)).setCell ⟨b_R, 4, none⟩ (.int .i64 s.bk)).setCell ⟨b_R, 5, none⟩ (.int .i64 s.sd)).setCell ⟨b_R, 6, none⟩ (.int .i64 s.th)).cell? ⟨b_R, 2, none⟩ = some (.int .i64 s.r1)) := Lib.hid (kk.cell 2)
    have HK3 : Hid ((((((((w_3.setCell ⟨b_R, 0, none⟩ (.slice (some ⟨gE_2, 0, none⟩) m cE_2)).setCell ⟨b_R, 1, none⟩ (.int .i64 s.r0)).setCell ⟨b_R, 2, none⟩ (.int .i64 s.r1)).setCell ⟨b_R, 3, none⟩ (.int .i64 s.r2)).setCell ⟨b_R, 4, none⟩ (.int .i64 s.bk)).setCell ⟨b_R, 5, none⟩ (.int .i64 s.sd)).setCell ⟨b_R, 6, none⟩ (.int .i64 s.th)).cell? ⟨b_R, 3, none⟩ = some (.int .i64 s.r2)) := Lib.hid (kk.cell 3)
    have HK4 : Hid ((((((((w_3.setCell ⟨b_R, 0, none⟩ (.slice (some ⟨gE_2, 0, none⟩) m cE_2)).setCell ⟨b_R, 1, none⟩ (.int .i64 s.r0)).setCell ⟨b_R, 2, none⟩ (.int .i64 s.r1)).setCell ⟨b_R, 3, none⟩ (.int .i64 s.r2)).setCell ⟨b_R, 4, none⟩ (.int .i64 s.bk)).setCell ⟨b_R, 5, none⟩ (.int .i64 s.sd)).setCell ⟨b_R, 6, none⟩ (.int .i64 s.th)).cell? ⟨b_R, 4, none⟩ = some (.int .i64 s.bk)) := Lib.hid (kk.cell 4)
    have HK5 : Hid ((((((((w_3.setCell ⟨b_R, 0, none⟩ (.slice (some ⟨gE_2, 0, none⟩) m cE_2)).setCell ⟨b_R, 1, none⟩ (.int .i64 s.r0)).setCell ⟨b_R, 2, none⟩ (.int .i64 s.r1)).setCell ⟨b_R, 3, none⟩ (.int .i64 s.r2)).setCell ⟨b_R, 4, none⟩ (.int .i64 s.bk)).setCell ⟨b_R, 5, none⟩ (.int .i64 s.sd)).setCell ⟨b_R, 6, none⟩ (.int .i64 s.th)).cell? ⟨b_R, 5, none⟩ = some (.int .i64 s.sd)) := Lib.hid (kk.cell 5)
    have HK6 : Hid ((((((((w_3.setCell ⟨b_R, 0, none⟩ (.slice (some ⟨gE_2, 0, none⟩) m cE_2)).setCell ⟨b_R, 1, none⟩ (.int .i64 s.r0)).setCell ⟨b_R, 2, none⟩ (.int .i64 s.r1)).setCell ⟨b_R, 3, none⟩ (.int .i64 s.r2)).setCell ⟨b_R, 4, none⟩ (.int .i64 s.bk)).setCell ⟨b_R, 5, none⟩ (.int .i64 s.sd)).setCell ⟨b_R, 6, none⟩ (.int .i64 s.th)).cell? ⟨b_R, 6, none⟩ = some (.int .i64 s.th)) := Lib.hid (kk.cell 6)
    clear kk
    clear o_3_E
    go_wp2
    have hk0 := HK0.out
    have hk1 := HK1.out
    have hk2 := HK2.out
    have hk3 := HK3.out
    have hk4 := HK4.out
    have hk5 := HK5.out
    have hk6 := HK6.out
    exact bodyPost_ret (v := .tuple #[.agg #[.slice (some ⟨gE_2, 0, none⟩) m cE_2, .int .i64 s.r0, .int .i64 s.r1, .int .i64 s.r2, .int .i64 s.bk, .int .i64 s.sd, .int .i64 s.th], .bool true]) (by simp [results, Try.results40, go_sem, hk0, hk1, hk2, hk3, hk4, hk5, hk6]) rfl (rowBkV_of (s := s) (by simp [skL, HV.out]) (by simp [skS, HV.out, HS.out]) (by rw [HV.out]) OE.out GX_E.out i9.below)
set_option maxHeartbeats 4000000 in
theorem iStrike (ga n ca : Nat) (xs : List EventR) (a b c d e f : Int) (w : World) (hn : (n : Int) ≤ 1048577) (hc : n ≤ ca) (hx : ReadsEvent w (some ⟨ga, 0, none⟩) n xs) : Calls Try.prog 41 #[.agg #[.slice (some ⟨ga, 0, none⟩) n ca, .int .i64 a, .int .i64 b, .int .i64 c, .int .i64 d, .int .i64 e, .int .i64 f]] w (RowBkV (skL n xs a b c d e f).length (skL n xs a b c d e f) (skS n xs a b c d e f) (.bool (skB n xs a b c d e f)) w) := by
  have HX := Lib.hid hx
  clear hx
  obtain ⟨b_A, hbx_A⟩ : ∃ b, b = w.heap.size := ⟨_, rfl⟩
  have kk_A : Blk ((w.alloc (.cells #[.slice (some ⟨ga, 0, none⟩) n ca, .int .i64 a, .int .i64 b, .int .i64 c, .int .i64 d, .int .i64 e, .int .i64 f] 51)).alloc (.cells #[.slice none 0 0, .int .i64 0, .int .i64 0, .int .i64 0, .int .i64 0, .int .i64 0, .int .i64 0] 51)) b_A 51 #[.slice (some ⟨ga, 0, none⟩) n ca, .int .i64 a, .int .i64 b, .int .i64 c, .int .i64 d, .int .i64 e, .int .i64 f] := ((Blk.new' (w := w) (t := 51) (cs := #[.slice (some ⟨ga, 0, none⟩) n ca, .int .i64 a, .int .i64 b, .int .i64 c, .int .i64 d, .int .i64 e, .int .i64 f]) (g := b_A) (by simp [hbx_A])).alloc (.cells #[.slice none 0 0, .int .i64 0, .int .i64 0, .int .i64 0, .int .i64 0, .int .i64 0, .int .i64 0] 51))
  have hwb_A : w.heap.size ≤ b_A := by omega
  obtain ⟨b_R, hbx_R⟩ : ∃ b, b = w.heap.size + 1 := ⟨_, rfl⟩
  have kk_R : Blk ((w.alloc (.cells #[.slice (some ⟨ga, 0, none⟩) n ca, .int .i64 a, .int .i64 b, .int .i64 c, .int .i64 d, .int .i64 e, .int .i64 f] 51)).alloc (.cells #[.slice none 0 0, .int .i64 0, .int .i64 0, .int .i64 0, .int .i64 0, .int .i64 0, .int .i64 0] 51)) b_R 51 #[.slice none 0 0, .int .i64 0, .int .i64 0, .int .i64 0, .int .i64 0, .int .i64 0, .int .i64 0] := (Blk.new' (w := (w.alloc (.cells #[.slice (some ⟨ga, 0, none⟩) n ca, .int .i64 a, .int .i64 b, .int .i64 c, .int .i64 d, .int .i64 e, .int .i64 f] 51))) (t := 51) (cs := #[.slice none 0 0, .int .i64 0, .int .i64 0, .int .i64 0, .int .i64 0, .int .i64 0, .int .i64 0]) (g := b_R) (by simp [hbx_R]))
  have hwb_R : w.heap.size ≤ b_R := by omega
  have NB_A_R : Hid (b_A ≠ b_R) := Lib.hid (by omega)
  have hb_0 : Below w.heap.size w ((w.alloc (.cells #[.slice (some ⟨ga, 0, none⟩) n ca, .int .i64 a, .int .i64 b, .int .i64 c, .int .i64 d, .int .i64 e, .int .i64 f] 51)).alloc (.cells #[.slice none 0 0, .int .i64 0, .int .i64 0, .int .i64 0, .int .i64 0, .int .i64 0, .int .i64 0] 51)) := by
    have h : In w.heap.size w ((w.alloc (.cells #[.slice (some ⟨ga, 0, none⟩) n ca, .int .i64 a, .int .i64 b, .int .i64 c, .int .i64 d, .int .i64 e, .int .i64 f] 51)).alloc (.cells #[.slice none 0 0, .int .i64 0, .int .i64 0, .int .i64 0, .int .i64 0, .int .i64 0, .int .i64 0] 51)) := by (repeat (first | exact In.refl _ | assumption | apply In.alloc | apply In.drewN | apply In.drew | (refine In.step ?_ (by assumption))))
    exact h.below
  have hsz_0 : ((w.alloc (.cells #[.slice (some ⟨ga, 0, none⟩) n ca, .int .i64 a, .int .i64 b, .int .i64 c, .int .i64 d, .int .i64 e, .int .i64 f] 51)).alloc (.cells #[.slice none 0 0, .int .i64 0, .int .i64 0, .int .i64 0, .int .i64 0, .int .i64 0, .int .i64 0] 51)).heap.size = b_R + 1 := by simp [hbx_R]
  go_enter Try.func41, Try.ntmps41
  go_wp2_with fail
  rw [← hbx_R]
  clear hbx_R
  rw [← hbx_A]
  clear hbx_A
  generalize ((w.alloc (.cells #[.slice (some ⟨ga, 0, none⟩) n ca, .int .i64 a, .int .i64 b, .int .i64 c, .int .i64 d, .int .i64 e, .int .i64 f] 51)).alloc (.cells #[.slice none 0 0, .int .i64 0, .int .i64 0, .int .i64 0, .int .i64 0, .int .i64 0, .int .i64 0] 51)) = w_0 at *
  have i_0 : In w.heap.size w w_0 := In.step (by (repeat (first | exact In.refl _ | assumption | apply In.alloc | apply In.drewN | apply In.drew | (refine In.step ?_ (by assumption))))) hb_0
  have k_0_A : Blk w_0 b_A 51 #[.slice (some ⟨ga, 0, none⟩) n ca, .int .i64 a, .int .i64 b, .int .i64 c, .int .i64 d, .int .i64 e, .int .i64 f] := kk_A
  have c_0_A_0 : w_0.cell? ⟨b_A, 0, none⟩ = some (.slice (some ⟨ga, 0, none⟩) n ca) := k_0_A.cell 0
  have c_0_A_1 : w_0.cell? ⟨b_A, 1, none⟩ = some (.int .i64 a) := k_0_A.cell 1
  have c_0_A_2 : w_0.cell? ⟨b_A, 2, none⟩ = some (.int .i64 b) := k_0_A.cell 2
  have c_0_A_3 : w_0.cell? ⟨b_A, 3, none⟩ = some (.int .i64 c) := k_0_A.cell 3
  have c_0_A_4 : w_0.cell? ⟨b_A, 4, none⟩ = some (.int .i64 d) := k_0_A.cell 4
  have c_0_A_5 : w_0.cell? ⟨b_A, 5, none⟩ = some (.int .i64 e) := k_0_A.cell 5
  have c_0_A_6 : w_0.cell? ⟨b_A, 6, none⟩ = some (.int .i64 f) := k_0_A.cell 6
  have l_0_A := k_0_A.lt
  have k_0_R : Blk w_0 b_R 51 #[.slice none 0 0, .int .i64 0, .int .i64 0, .int .i64 0, .int .i64 0, .int .i64 0, .int .i64 0] := kk_R
  have c_0_R_0 : w_0.cell? ⟨b_R, 0, none⟩ = some (.slice none 0 0) := k_0_R.cell 0
  have c_0_R_1 : w_0.cell? ⟨b_R, 1, none⟩ = some (.int .i64 0) := k_0_R.cell 1
  have c_0_R_2 : w_0.cell? ⟨b_R, 2, none⟩ = some (.int .i64 0) := k_0_R.cell 2
  have c_0_R_3 : w_0.cell? ⟨b_R, 3, none⟩ = some (.int .i64 0) := k_0_R.cell 3
  have c_0_R_4 : w_0.cell? ⟨b_R, 4, none⟩ = some (.int .i64 0) := k_0_R.cell 4
  have c_0_R_5 : w_0.cell? ⟨b_R, 5, none⟩ = some (.int .i64 0) := k_0_R.cell 5
  have c_0_R_6 : w_0.cell? ⟨b_R, 6, none⟩ = some (.int .i64 0) := k_0_R.cell 6
  have l_0_R := k_0_R.lt
  have z_0_R := k_0_R.frozen
  clear kk_A kk_R
  go_wp2_with fail
  refine (iBookOk ga n ca xs a b c d e f _ hn (HX.out.in_ (by (repeat (first | exact In.refl _ | assumption | apply In.alloc | apply In.drewN | apply In.drew | (refine In.step ?_ (by assumption))))))).mono ?_
  rintro _ w_1 ⟨rfl, hb_1⟩
  have i_1 : In w.heap.size w w_1 := In.step (by (repeat (first | exact In.refl _ | assumption | apply In.alloc | apply In.drewN | apply In.drew | (refine In.step ?_ (by assumption))))) hb_1
  have k_1_A : Blk w_1 b_A 51 #[.slice (some ⟨ga, 0, none⟩) n ca, .int .i64 a, .int .i64 b, .int .i64 c, .int .i64 d, .int .i64 e, .int .i64 f] := Blk.step (by (with_reducible (repeat (first | assumption | exact Blk.new' (by simp) | apply Blk.drewN | apply Blk.drew | apply Blk.alloc | (refine Blk.far ?_ (by (try simp) <;> omega) _))))) hb_1
  have c_1_A_0 : w_1.cell? ⟨b_A, 0, none⟩ = some (.slice (some ⟨ga, 0, none⟩) n ca) := k_1_A.cell 0
  have c_1_A_1 : w_1.cell? ⟨b_A, 1, none⟩ = some (.int .i64 a) := k_1_A.cell 1
  have c_1_A_2 : w_1.cell? ⟨b_A, 2, none⟩ = some (.int .i64 b) := k_1_A.cell 2
  have c_1_A_3 : w_1.cell? ⟨b_A, 3, none⟩ = some (.int .i64 c) := k_1_A.cell 3
  have c_1_A_4 : w_1.cell? ⟨b_A, 4, none⟩ = some (.int .i64 d) := k_1_A.cell 4
  have c_1_A_5 : w_1.cell? ⟨b_A, 5, none⟩ = some (.int .i64 e) := k_1_A.cell 5
  have c_1_A_6 : w_1.cell? ⟨b_A, 6, none⟩ = some (.int .i64 f) := k_1_A.cell 6
  have l_1_A := k_1_A.lt
  have k_1_R : Blk w_1 b_R 51 #[.slice none 0 0, .int .i64 0, .int .i64 0, .int .i64 0, .int .i64 0, .int .i64 0, .int .i64 0] := Blk.step (by (with_reducible (repeat (first | assumption | exact Blk.new' (by simp) | apply Blk.drewN | apply Blk.drew | apply Blk.alloc | (refine Blk.far ?_ (by (try simp) <;> omega) _))))) hb_1
  have c_1_R_0 : w_1.cell? ⟨b_R, 0, none⟩ = some (.slice none 0 0) := k_1_R.cell 0
  have c_1_R_1 : w_1.cell? ⟨b_R, 1, none⟩ = some (.int .i64 0) := k_1_R.cell 1
  have c_1_R_2 : w_1.cell? ⟨b_R, 2, none⟩ = some (.int .i64 0) := k_1_R.cell 2
  have c_1_R_3 : w_1.cell? ⟨b_R, 3, none⟩ = some (.int .i64 0) := k_1_R.cell 3
  have c_1_R_4 : w_1.cell? ⟨b_R, 4, none⟩ = some (.int .i64 0) := k_1_R.cell 4
  have c_1_R_5 : w_1.cell? ⟨b_R, 5, none⟩ = some (.int .i64 0) := k_1_R.cell 5
  have c_1_R_6 : w_1.cell? ⟨b_R, 6, none⟩ = some (.int .i64 0) := k_1_R.cell 6
  have l_1_R := k_1_R.lt
  have z_1_R := k_1_R.frozen
  clear i_0 k_0_A c_0_A_0 c_0_A_1 c_0_A_2 c_0_A_3 c_0_A_4 c_0_A_5 c_0_A_6 l_0_A k_0_R c_0_R_0 c_0_R_1 c_0_R_2 c_0_R_3 c_0_R_4 c_0_R_5 c_0_R_6 l_0_R z_0_R hb_0
  cases h1 : bkB n xs a b c d e f
  · have HV : Hid (skB n xs a b c d e f = false) := Lib.hid (by simp [skB, h1])
    go_wp2_with fail
    refine (i37Copy ga n ca xs a b c d e f _ (by omega) (HX.out.in_ (by (repeat (first | exact In.refl _ | assumption | apply In.alloc | apply In.drewN | apply In.drew | (refine In.step ?_ (by assumption))))))).mono ?_
    rintro _ w_2 ⟨gE_2, cE_2, rfl, hoE_2, hgE_2, hb_2⟩
    have GX_E : Hid (w.heap.size ≤ gE_2) := Lib.hid (by have h1 := hgE_2; (try simp at h1); have h2 := In.size i_1; omega)
    have o_2_E : OCEvent w_2 gE_2 (n) cE_2 xs := hoE_2
    clear hoE_2 hgE_2
    have i_2 : In w.heap.size w w_2 := In.step (by (repeat (first | exact In.refl _ | assumption | apply In.alloc | apply In.drewN | apply In.drew | (refine In.step ?_ (by assumption))))) hb_2
    have k_2_A : Blk w_2 b_A 51 #[.slice (some ⟨ga, 0, none⟩) n ca, .int .i64 a, .int .i64 b, .int .i64 c, .int .i64 d, .int .i64 e, .int .i64 f] := Blk.step (by (with_reducible (repeat (first | assumption | exact Blk.new' (by simp) | apply Blk.drewN | apply Blk.drew | apply Blk.alloc | (refine Blk.far ?_ (by (try simp) <;> omega) _))))) hb_2
    have c_2_A_0 : w_2.cell? ⟨b_A, 0, none⟩ = some (.slice (some ⟨ga, 0, none⟩) n ca) := k_2_A.cell 0
    have c_2_A_1 : w_2.cell? ⟨b_A, 1, none⟩ = some (.int .i64 a) := k_2_A.cell 1
    have c_2_A_2 : w_2.cell? ⟨b_A, 2, none⟩ = some (.int .i64 b) := k_2_A.cell 2
    have c_2_A_3 : w_2.cell? ⟨b_A, 3, none⟩ = some (.int .i64 c) := k_2_A.cell 3
    have c_2_A_4 : w_2.cell? ⟨b_A, 4, none⟩ = some (.int .i64 d) := k_2_A.cell 4
    have c_2_A_5 : w_2.cell? ⟨b_A, 5, none⟩ = some (.int .i64 e) := k_2_A.cell 5
    have c_2_A_6 : w_2.cell? ⟨b_A, 6, none⟩ = some (.int .i64 f) := k_2_A.cell 6
    have l_2_A := k_2_A.lt
    have k_2_R : Blk w_2 b_R 51 #[.slice none 0 0, .int .i64 0, .int .i64 0, .int .i64 0, .int .i64 0, .int .i64 0, .int .i64 0] := Blk.step (by (with_reducible (repeat (first | assumption | exact Blk.new' (by simp) | apply Blk.drewN | apply Blk.drew | apply Blk.alloc | (refine Blk.far ?_ (by (try simp) <;> omega) _))))) hb_2
    have c_2_R_0 : w_2.cell? ⟨b_R, 0, none⟩ = some (.slice none 0 0) := k_2_R.cell 0
    have c_2_R_1 : w_2.cell? ⟨b_R, 1, none⟩ = some (.int .i64 0) := k_2_R.cell 1
    have c_2_R_2 : w_2.cell? ⟨b_R, 2, none⟩ = some (.int .i64 0) := k_2_R.cell 2
    have c_2_R_3 : w_2.cell? ⟨b_R, 3, none⟩ = some (.int .i64 0) := k_2_R.cell 3
    have c_2_R_4 : w_2.cell? ⟨b_R, 4, none⟩ = some (.int .i64 0) := k_2_R.cell 4
    have c_2_R_5 : w_2.cell? ⟨b_R, 5, none⟩ = some (.int .i64 0) := k_2_R.cell 5
    have c_2_R_6 : w_2.cell? ⟨b_R, 6, none⟩ = some (.int .i64 0) := k_2_R.cell 6
    have l_2_R := k_2_R.lt
    have z_2_R := k_2_R.frozen
    clear i_1 k_1_A c_1_A_0 c_1_A_1 c_1_A_2 c_1_A_3 c_1_A_4 c_1_A_5 c_1_A_6 l_1_A k_1_R c_1_R_0 c_1_R_1 c_1_R_2 c_1_R_3 c_1_R_4 c_1_R_5 c_1_R_6 l_1_R z_1_R hb_1
    have hn1_R_A : b_A ≠ b_R := by first | exact NB_A_R.out | exact NB_R_A.out.symm
    have hn2_R_A : b_R ≠ b_A := hn1_R_A.symm
    have kk : Blk (((((((w_2.setCell ⟨b_R, 0, none⟩ (.slice (some ⟨gE_2, 0, none⟩) n cE_2)).setCell ⟨b_R, 1, none⟩ (.int .i64 a)).setCell ⟨b_R, 2, none⟩ (.int .i64 b)).setCell ⟨b_R, 3, none⟩ (.int .i64 c)).setCell ⟨b_R, 4, none⟩ (.int .i64 d)).setCell ⟨b_R, 5, none⟩ (.int .i64 e)).setCell ⟨b_R, 6, none⟩ (.int .i64 f)) b_R 51 #[.slice (some ⟨gE_2, 0, none⟩) n cE_2, .int .i64 a, .int .i64 b, .int .i64 c, .int .i64 d, .int .i64 e, .int .i64 f] := by
      have h := (((((((k_2_R.set_ 0 (.slice (some ⟨gE_2, 0, none⟩) n cE_2)).set_ 1 (.int .i64 a)).set_ 2 (.int .i64 b)).set_ 3 (.int .i64 c)).set_ 4 (.int .i64 d)).set_ 5 (.int .i64 e)).set_ 6 (.int .i64 f))
      simpa using h
    have i9 : In w.heap.size w (((((((w_2.setCell ⟨b_R, 0, none⟩ (.slice (some ⟨gE_2, 0, none⟩) n cE_2)).setCell ⟨b_R, 1, none⟩ (.int .i64 a)).setCell ⟨b_R, 2, none⟩ (.int .i64 b)).setCell ⟨b_R, 3, none⟩ (.int .i64 c)).setCell ⟨b_R, 4, none⟩ (.int .i64 d)).setCell ⟨b_R, 5, none⟩ (.int .i64 e)).setCell ⟨b_R, 6, none⟩ (.int .i64 f)) := (In.set_ (In.set_ (In.set_ (In.set_ (In.set_ (In.set_ (In.set_ i_2 (p := ⟨b_R, 0, none⟩) hwb_R (.slice (some ⟨gE_2, 0, none⟩) n cE_2)) (p := ⟨b_R, 1, none⟩) hwb_R (.int .i64 a)) (p := ⟨b_R, 2, none⟩) hwb_R (.int .i64 b)) (p := ⟨b_R, 3, none⟩) hwb_R (.int .i64 c)) (p := ⟨b_R, 4, none⟩) hwb_R (.int .i64 d)) (p := ⟨b_R, 5, none⟩) hwb_R (.int .i64 e)) (p := ⟨b_R, 6, none⟩) hwb_R (.int .i64 f))
    have OE : Hid (OCEvent (((((((w_2.setCell ⟨b_R, 0, none⟩ (.slice (some ⟨gE_2, 0, none⟩) n cE_2)).setCell ⟨b_R, 1, none⟩ (.int .i64 a)).setCell ⟨b_R, 2, none⟩ (.int .i64 b)).setCell ⟨b_R, 3, none⟩ (.int .i64 c)).setCell ⟨b_R, 4, none⟩ (.int .i64 d)).setCell ⟨b_R, 5, none⟩ (.int .i64 e)).setCell ⟨b_R, 6, none⟩ (.int .i64 f)) gE_2 (n) cE_2 xs) := Lib.hid (OCEvent.far (OCEvent.far (OCEvent.far (OCEvent.far (OCEvent.far (OCEvent.far (OCEvent.far o_2_E k_2_R (by decide) (only_set ⟨b_R, 0, none⟩ (.slice (some ⟨gE_2, 0, none⟩) n cE_2))) (k_2_R.set_ 0 (.slice (some ⟨gE_2, 0, none⟩) n cE_2)) (by decide) (only_set ⟨b_R, 1, none⟩ (.int .i64 a))) ((k_2_R.set_ 0 (.slice (some ⟨gE_2, 0, none⟩) n cE_2)).set_ 1 (.int .i64 a)) (by decide) (only_set ⟨b_R, 2, none⟩ (.int .i64 b))) (((k_2_R.set_ 0 (.slice (some ⟨gE_2, 0, none⟩) n cE_2)).set_ 1 (.int .i64 a)).set_ 2 (.int .i64 b)) (by decide) (only_set ⟨b_R, 3, none⟩ (.int .i64 c))) ((((k_2_R.set_ 0 (.slice (some ⟨gE_2, 0, none⟩) n cE_2)).set_ 1 (.int .i64 a)).set_ 2 (.int .i64 b)).set_ 3 (.int .i64 c)) (by decide) (only_set ⟨b_R, 4, none⟩ (.int .i64 d))) (((((k_2_R.set_ 0 (.slice (some ⟨gE_2, 0, none⟩) n cE_2)).set_ 1 (.int .i64 a)).set_ 2 (.int .i64 b)).set_ 3 (.int .i64 c)).set_ 4 (.int .i64 d)) (by decide) (only_set ⟨b_R, 5, none⟩ (.int .i64 e))) ((((((k_2_R.set_ 0 (.slice (some ⟨gE_2, 0, none⟩) n cE_2)).set_ 1 (.int .i64 a)).set_ 2 (.int .i64 b)).set_ 3 (.int .i64 c)).set_ 4 (.int .i64 d)).set_ 5 (.int .i64 e)) (by decide) (only_set ⟨b_R, 6, none⟩ (.int .i64 f)))
    have HK0 : Hid ((((((((w_2.setCell ⟨b_R, 0, none⟩ (.slice (some ⟨gE_2, 0, none⟩) n cE_2)).setCell ⟨b_R, 1, none⟩ (.int .i64 a)).setCell ⟨b_R, 2, none⟩ (.int .i64 b)).setCell ⟨b_R, 3, none⟩ (.int .i64 c)).setCell ⟨b_R, 4, none⟩ (.int .i64 d)).setCell ⟨b_R, 5, none⟩ (.int .i64 e)).setCell ⟨b_R, 6, none⟩ (.int .i64 f)).cell? ⟨b_R, 0, none⟩ = some (.slice (some ⟨gE_2, 0, none⟩) n cE_2)) := Lib.hid (kk.cell 0)
    have HK1 : Hid ((((((((w_2.setCell ⟨b_R, 0, none⟩ (.slice (some ⟨gE_2, 0, none⟩) n cE_2)).setCell ⟨b_R, 1, none⟩ (.int .i64 a)).setCell ⟨b_R, 2, none⟩ (.int .i64 b)).setCell ⟨b_R, 3, none⟩ (.int .i64 c)).setCell ⟨b_R, 4, none⟩ (.int .i64 d)).setCell ⟨b_R, 5, none⟩ (.int .i64 e)).setCell ⟨b_R, 6, none⟩ (.int .i64 f)).cell? ⟨b_R, 1, none⟩ = some (.int .i64 a)) := Lib.hid (kk.cell 1)
    have HK2 : Hid ((((((((w_2.setCell ⟨b_R, 0, none⟩ (.slice (some ⟨gE_2, 0, none⟩) n cE_2)).setCell ⟨b_R, 1, none⟩ (.int .i64 a)).setCell ⟨b_R, 2, none⟩ (.int .i64 b)).setCell ⟨b_R, 3, none⟩ (.int .i64 c)).setCell ⟨b_R, 4, none⟩ (.int .i64 d)).setCell ⟨b_R, 5, none⟩ (.int .i64 e)).setCell ⟨b_R, 6, none⟩ (.int .i64 f)).cell? ⟨b_R, 2, none⟩ = some (.int .i64 b)) := Lib.hid (kk.cell 2)
    have HK3 : Hid ((((((((w_2.setCell ⟨b_R, 0, none⟩ (.slice (some ⟨gE_2, 0, none⟩) n cE_2)).setCell ⟨b_R, 1, none⟩ (.int .i64 a)).setCell ⟨b_R, 2, none⟩ (.int .i64 b)).setCell ⟨b_R, 3, none⟩ (.int .i64 c)).setCell ⟨b_R, 4, none⟩ (.int .i64 d)).setCell ⟨b_R, 5, none⟩ (.int .i64 e)).setCell ⟨b_R, 6, none⟩ (.int .i64 f)).cell? ⟨b_R, 3, none⟩ = some (.int .i64 c)) := Lib.hid (kk.cell 3)
    have HK4 : Hid ((((((((w_2.setCell ⟨b_R, 0, none⟩ (.slice (some ⟨gE_2, 0, none⟩) n cE_2)).setCell ⟨b_R, 1, none⟩ (.int .i64 a)).setCell ⟨b_R, 2, none⟩ (.int .i64 b)).setCell ⟨b_R, 3, none⟩ (.int .i64 c)).setCell ⟨b_R, 4, none⟩ (.int .i64 d)).setCell ⟨b_R, 5, none⟩ (.int .i64 e)).setCell ⟨b_R, 6, none⟩ (.int .i64 f)).cell? ⟨b_R, 4, none⟩ = some (.int .i64 d)) := Lib.hid (kk.cell 4)
    have HK5 : Hid ((((((((w_2.setCell ⟨b_R, 0, none⟩ (.slice (some ⟨gE_2, 0, none⟩) n cE_2)).setCell ⟨b_R, 1, none⟩ (.int .i64 a)).setCell ⟨b_R, 2, none⟩ (.int .i64 b)).setCell ⟨b_R, 3, none⟩ (.int .i64 c)).setCell ⟨b_R, 4, none⟩ (.int .i64 d)).setCell ⟨b_R, 5, none⟩ (.int .i64 e)).setCell ⟨b_R, 6, none⟩ (.int .i64 f)).cell? ⟨b_R, 5, none⟩ = some (.int .i64 e)) := Lib.hid (kk.cell 5)
    have HK6 : Hid ((((((((w_2.setCell ⟨b_R, 0, none⟩ (.slice (some ⟨gE_2, 0, none⟩) n cE_2)).setCell ⟨b_R, 1, none⟩ (.int .i64 a)).setCell ⟨b_R, 2, none⟩ (.int .i64 b)).setCell ⟨b_R, 3, none⟩ (.int .i64 c)).setCell ⟨b_R, 4, none⟩ (.int .i64 d)).setCell ⟨b_R, 5, none⟩ (.int .i64 e)).setCell ⟨b_R, 6, none⟩ (.int .i64 f)).cell? ⟨b_R, 6, none⟩ = some (.int .i64 f)) := Lib.hid (kk.cell 6)
    clear kk
    clear o_2_E
    go_wp2
    have hk0 := HK0.out
    have hk1 := HK1.out
    have hk2 := HK2.out
    have hk3 := HK3.out
    have hk4 := HK4.out
    have hk5 := HK5.out
    have hk6 := HK6.out
    exact bodyPost_ret (v := .tuple #[.agg #[.slice (some ⟨gE_2, 0, none⟩) n cE_2, .int .i64 a, .int .i64 b, .int .i64 c, .int .i64 d, .int .i64 e, .int .i64 f], .bool false]) (by simp [results, Try.results41, go_sem, hk0, hk1, hk2, hk3, hk4, hk5, hk6]) rfl (rowBkV_of (s := ⟨a, b, c, d, e, f⟩) (by simp [skL, HV.out]) (by simp [skS, HV.out]) (by rw [HV.out]) OE.out GX_E.out i9.below)
  cases n with
  | zero =>
    have HV : Hid (skB 0 xs a b c d e f = false) := Lib.hid (by simp [skB])
    go_wp2_with fail
    refine (i37Copy ga 0 ca xs a b c d e f _ (by omega) (HX.out.in_ (by (repeat (first | exact In.refl _ | assumption | apply In.alloc | apply In.drewN | apply In.drew | (refine In.step ?_ (by assumption))))))).mono ?_
    rintro _ w_2 ⟨gE_2, cE_2, rfl, hoE_2, hgE_2, hb_2⟩
    have GX_E : Hid (w.heap.size ≤ gE_2) := Lib.hid (by have h1 := hgE_2; (try simp at h1); have h2 := In.size i_1; omega)
    have o_2_E : OCEvent w_2 gE_2 (0) cE_2 xs := hoE_2
    clear hoE_2 hgE_2
    have i_2 : In w.heap.size w w_2 := In.step (by (repeat (first | exact In.refl _ | assumption | apply In.alloc | apply In.drewN | apply In.drew | (refine In.step ?_ (by assumption))))) hb_2
    have k_2_A : Blk w_2 b_A 51 #[.slice (some ⟨ga, 0, none⟩) 0 ca, .int .i64 a, .int .i64 b, .int .i64 c, .int .i64 d, .int .i64 e, .int .i64 f] := Blk.step (by (with_reducible (repeat (first | assumption | exact Blk.new' (by simp) | apply Blk.drewN | apply Blk.drew | apply Blk.alloc | (refine Blk.far ?_ (by (try simp) <;> omega) _))))) hb_2
    have c_2_A_0 : w_2.cell? ⟨b_A, 0, none⟩ = some (.slice (some ⟨ga, 0, none⟩) 0 ca) := k_2_A.cell 0
    have c_2_A_1 : w_2.cell? ⟨b_A, 1, none⟩ = some (.int .i64 a) := k_2_A.cell 1
    have c_2_A_2 : w_2.cell? ⟨b_A, 2, none⟩ = some (.int .i64 b) := k_2_A.cell 2
    have c_2_A_3 : w_2.cell? ⟨b_A, 3, none⟩ = some (.int .i64 c) := k_2_A.cell 3
    have c_2_A_4 : w_2.cell? ⟨b_A, 4, none⟩ = some (.int .i64 d) := k_2_A.cell 4
    have c_2_A_5 : w_2.cell? ⟨b_A, 5, none⟩ = some (.int .i64 e) := k_2_A.cell 5
    have c_2_A_6 : w_2.cell? ⟨b_A, 6, none⟩ = some (.int .i64 f) := k_2_A.cell 6
    have l_2_A := k_2_A.lt
    have k_2_R : Blk w_2 b_R 51 #[.slice none 0 0, .int .i64 0, .int .i64 0, .int .i64 0, .int .i64 0, .int .i64 0, .int .i64 0] := Blk.step (by (with_reducible (repeat (first | assumption | exact Blk.new' (by simp) | apply Blk.drewN | apply Blk.drew | apply Blk.alloc | (refine Blk.far ?_ (by (try simp) <;> omega) _))))) hb_2
    have c_2_R_0 : w_2.cell? ⟨b_R, 0, none⟩ = some (.slice none 0 0) := k_2_R.cell 0
    have c_2_R_1 : w_2.cell? ⟨b_R, 1, none⟩ = some (.int .i64 0) := k_2_R.cell 1
    have c_2_R_2 : w_2.cell? ⟨b_R, 2, none⟩ = some (.int .i64 0) := k_2_R.cell 2
    have c_2_R_3 : w_2.cell? ⟨b_R, 3, none⟩ = some (.int .i64 0) := k_2_R.cell 3
    have c_2_R_4 : w_2.cell? ⟨b_R, 4, none⟩ = some (.int .i64 0) := k_2_R.cell 4
    have c_2_R_5 : w_2.cell? ⟨b_R, 5, none⟩ = some (.int .i64 0) := k_2_R.cell 5
    have c_2_R_6 : w_2.cell? ⟨b_R, 6, none⟩ = some (.int .i64 0) := k_2_R.cell 6
    have l_2_R := k_2_R.lt
    have z_2_R := k_2_R.frozen
    clear i_1 k_1_A c_1_A_0 c_1_A_1 c_1_A_2 c_1_A_3 c_1_A_4 c_1_A_5 c_1_A_6 l_1_A k_1_R c_1_R_0 c_1_R_1 c_1_R_2 c_1_R_3 c_1_R_4 c_1_R_5 c_1_R_6 l_1_R z_1_R hb_1
    have hn1_R_A : b_A ≠ b_R := by first | exact NB_A_R.out | exact NB_R_A.out.symm
    have hn2_R_A : b_R ≠ b_A := hn1_R_A.symm
    have kk : Blk (((((((w_2.setCell ⟨b_R, 0, none⟩ (.slice (some ⟨gE_2, 0, none⟩) 0 cE_2)).setCell ⟨b_R, 1, none⟩ (.int .i64 a)).setCell ⟨b_R, 2, none⟩ (.int .i64 b)).setCell ⟨b_R, 3, none⟩ (.int .i64 c)).setCell ⟨b_R, 4, none⟩ (.int .i64 d)).setCell ⟨b_R, 5, none⟩ (.int .i64 e)).setCell ⟨b_R, 6, none⟩ (.int .i64 f)) b_R 51 #[.slice (some ⟨gE_2, 0, none⟩) 0 cE_2, .int .i64 a, .int .i64 b, .int .i64 c, .int .i64 d, .int .i64 e, .int .i64 f] := by
      have h := (((((((k_2_R.set_ 0 (.slice (some ⟨gE_2, 0, none⟩) 0 cE_2)).set_ 1 (.int .i64 a)).set_ 2 (.int .i64 b)).set_ 3 (.int .i64 c)).set_ 4 (.int .i64 d)).set_ 5 (.int .i64 e)).set_ 6 (.int .i64 f))
      simpa using h
    have i9 : In w.heap.size w (((((((w_2.setCell ⟨b_R, 0, none⟩ (.slice (some ⟨gE_2, 0, none⟩) 0 cE_2)).setCell ⟨b_R, 1, none⟩ (.int .i64 a)).setCell ⟨b_R, 2, none⟩ (.int .i64 b)).setCell ⟨b_R, 3, none⟩ (.int .i64 c)).setCell ⟨b_R, 4, none⟩ (.int .i64 d)).setCell ⟨b_R, 5, none⟩ (.int .i64 e)).setCell ⟨b_R, 6, none⟩ (.int .i64 f)) := (In.set_ (In.set_ (In.set_ (In.set_ (In.set_ (In.set_ (In.set_ i_2 (p := ⟨b_R, 0, none⟩) hwb_R (.slice (some ⟨gE_2, 0, none⟩) 0 cE_2)) (p := ⟨b_R, 1, none⟩) hwb_R (.int .i64 a)) (p := ⟨b_R, 2, none⟩) hwb_R (.int .i64 b)) (p := ⟨b_R, 3, none⟩) hwb_R (.int .i64 c)) (p := ⟨b_R, 4, none⟩) hwb_R (.int .i64 d)) (p := ⟨b_R, 5, none⟩) hwb_R (.int .i64 e)) (p := ⟨b_R, 6, none⟩) hwb_R (.int .i64 f))
    have OE : Hid (OCEvent (((((((w_2.setCell ⟨b_R, 0, none⟩ (.slice (some ⟨gE_2, 0, none⟩) 0 cE_2)).setCell ⟨b_R, 1, none⟩ (.int .i64 a)).setCell ⟨b_R, 2, none⟩ (.int .i64 b)).setCell ⟨b_R, 3, none⟩ (.int .i64 c)).setCell ⟨b_R, 4, none⟩ (.int .i64 d)).setCell ⟨b_R, 5, none⟩ (.int .i64 e)).setCell ⟨b_R, 6, none⟩ (.int .i64 f)) gE_2 (0) cE_2 xs) := Lib.hid (OCEvent.far (OCEvent.far (OCEvent.far (OCEvent.far (OCEvent.far (OCEvent.far (OCEvent.far o_2_E k_2_R (by decide) (only_set ⟨b_R, 0, none⟩ (.slice (some ⟨gE_2, 0, none⟩) 0 cE_2))) (k_2_R.set_ 0 (.slice (some ⟨gE_2, 0, none⟩) 0 cE_2)) (by decide) (only_set ⟨b_R, 1, none⟩ (.int .i64 a))) ((k_2_R.set_ 0 (.slice (some ⟨gE_2, 0, none⟩) 0 cE_2)).set_ 1 (.int .i64 a)) (by decide) (only_set ⟨b_R, 2, none⟩ (.int .i64 b))) (((k_2_R.set_ 0 (.slice (some ⟨gE_2, 0, none⟩) 0 cE_2)).set_ 1 (.int .i64 a)).set_ 2 (.int .i64 b)) (by decide) (only_set ⟨b_R, 3, none⟩ (.int .i64 c))) ((((k_2_R.set_ 0 (.slice (some ⟨gE_2, 0, none⟩) 0 cE_2)).set_ 1 (.int .i64 a)).set_ 2 (.int .i64 b)).set_ 3 (.int .i64 c)) (by decide) (only_set ⟨b_R, 4, none⟩ (.int .i64 d))) (((((k_2_R.set_ 0 (.slice (some ⟨gE_2, 0, none⟩) 0 cE_2)).set_ 1 (.int .i64 a)).set_ 2 (.int .i64 b)).set_ 3 (.int .i64 c)).set_ 4 (.int .i64 d)) (by decide) (only_set ⟨b_R, 5, none⟩ (.int .i64 e))) ((((((k_2_R.set_ 0 (.slice (some ⟨gE_2, 0, none⟩) 0 cE_2)).set_ 1 (.int .i64 a)).set_ 2 (.int .i64 b)).set_ 3 (.int .i64 c)).set_ 4 (.int .i64 d)).set_ 5 (.int .i64 e)) (by decide) (only_set ⟨b_R, 6, none⟩ (.int .i64 f)))
    have HK0 : Hid ((((((((w_2.setCell ⟨b_R, 0, none⟩ (.slice (some ⟨gE_2, 0, none⟩) 0 cE_2)).setCell ⟨b_R, 1, none⟩ (.int .i64 a)).setCell ⟨b_R, 2, none⟩ (.int .i64 b)).setCell ⟨b_R, 3, none⟩ (.int .i64 c)).setCell ⟨b_R, 4, none⟩ (.int .i64 d)).setCell ⟨b_R, 5, none⟩ (.int .i64 e)).setCell ⟨b_R, 6, none⟩ (.int .i64 f)).cell? ⟨b_R, 0, none⟩ = some (.slice (some ⟨gE_2, 0, none⟩) 0 cE_2)) := Lib.hid (kk.cell 0)
    have HK1 : Hid ((((((((w_2.setCell ⟨b_R, 0, none⟩ (.slice (some ⟨gE_2, 0, none⟩) 0 cE_2)).setCell ⟨b_R, 1, none⟩ (.int .i64 a)).setCell ⟨b_R, 2, none⟩ (.int .i64 b)).setCell ⟨b_R, 3, none⟩ (.int .i64 c)).setCell ⟨b_R, 4, none⟩ (.int .i64 d)).setCell ⟨b_R, 5, none⟩ (.int .i64 e)).setCell ⟨b_R, 6, none⟩ (.int .i64 f)).cell? ⟨b_R, 1, none⟩ = some (.int .i64 a)) := Lib.hid (kk.cell 1)
    have HK2 : Hid ((((((((w_2.setCell ⟨b_R, 0, none⟩ (.slice (some ⟨gE_2, 0, none⟩) 0 cE_2)).setCell ⟨b_R, 1, none⟩ (.int .i64 a)).setCell ⟨b_R, 2, none⟩ (.int .i64 b)).setCell ⟨b_R, 3, none⟩ (.int .i64 c)).setCell ⟨b_R, 4, none⟩ (.int .i64 d)).setCell ⟨b_R, 5, none⟩ (.int .i64 e)).setCell ⟨b_R, 6, none⟩ (.int .i64 f)).cell? ⟨b_R, 2, none⟩ = some (.int .i64 b)) := Lib.hid (kk.cell 2)
    have HK3 : Hid ((((((((w_2.setCell ⟨b_R, 0, none⟩ (.slice (some ⟨gE_2, 0, none⟩) 0 cE_2)).setCell ⟨b_R, 1, none⟩ (.int .i64 a)).setCell ⟨b_R, 2, none⟩ (.int .i64 b)).setCell ⟨b_R, 3, none⟩ (.int .i64 c)).setCell ⟨b_R, 4, none⟩ (.int .i64 d)).setCell ⟨b_R, 5, none⟩ (.int .i64 e)).setCell ⟨b_R, 6, none⟩ (.int .i64 f)).cell? ⟨b_R, 3, none⟩ = some (.int .i64 c)) := Lib.hid (kk.cell 3)
    have HK4 : Hid ((((((((w_2.setCell ⟨b_R, 0, none⟩ (.slice (some ⟨gE_2, 0, none⟩) 0 cE_2)).setCell ⟨b_R, 1, none⟩ (.int .i64 a)).setCell ⟨b_R, 2, none⟩ (.int .i64 b)).setCell ⟨b_R, 3, none⟩ (.int .i64 c)).setCell ⟨b_R, 4, none⟩ (.int .i64 d)).setCell ⟨b_R, 5, none⟩ (.int .i64 e)).setCell ⟨b_R, 6, none⟩ (.int .i64 f)).cell? ⟨b_R, 4, none⟩ = some (.int .i64 d)) := Lib.hid (kk.cell 4)
    have HK5 : Hid ((((((((w_2.setCell ⟨b_R, 0, none⟩ (.slice (some ⟨gE_2, 0, none⟩) 0 cE_2)).setCell ⟨b_R, 1, none⟩ (.int .i64 a)).setCell ⟨b_R, 2, none⟩ (.int .i64 b)).setCell ⟨b_R, 3, none⟩ (.int .i64 c)).setCell ⟨b_R, 4, none⟩ (.int .i64 d)).setCell ⟨b_R, 5, none⟩ (.int .i64 e)).setCell ⟨b_R, 6, none⟩ (.int .i64 f)).cell? ⟨b_R, 5, none⟩ = some (.int .i64 e)) := Lib.hid (kk.cell 5)
    have HK6 : Hid ((((((((w_2.setCell ⟨b_R, 0, none⟩ (.slice (some ⟨gE_2, 0, none⟩) 0 cE_2)).setCell ⟨b_R, 1, none⟩ (.int .i64 a)).setCell ⟨b_R, 2, none⟩ (.int .i64 b)).setCell ⟨b_R, 3, none⟩ (.int .i64 c)).setCell ⟨b_R, 4, none⟩ (.int .i64 d)).setCell ⟨b_R, 5, none⟩ (.int .i64 e)).setCell ⟨b_R, 6, none⟩ (.int .i64 f)).cell? ⟨b_R, 6, none⟩ = some (.int .i64 f)) := Lib.hid (kk.cell 6)
    clear kk
    clear o_2_E
    go_wp2
    have hk0 := HK0.out
    have hk1 := HK1.out
    have hk2 := HK2.out
    have hk3 := HK3.out
    have hk4 := HK4.out
    have hk5 := HK5.out
    have hk6 := HK6.out
    exact bodyPost_ret (v := .tuple #[.agg #[.slice (some ⟨gE_2, 0, none⟩) 0 cE_2, .int .i64 a, .int .i64 b, .int .i64 c, .int .i64 d, .int .i64 e, .int .i64 f], .bool false]) (by simp [results, Try.results41, go_sem, hk0, hk1, hk2, hk3, hk4, hk5, hk6]) rfl (rowBkV_of (s := ⟨a, b, c, d, e, f⟩) (by simp [skL, HV.out]) (by simp [skS, HV.out]) (by rw [HV.out]) OE.out GX_E.out i9.below)
  | succ m =>
    obtain ⟨h40, hcnt, hst⟩ := bk_at h1
    have HV : Hid (skB (m + 1) xs a b c d e f = true) := Lib.hid (by simp [skB, h1])
    have hwr : wrap64 (((m + 1 : Nat) : Int) - 1) = (m : Int) := by rw [w64 (by omega)]; omega
    have hsl := fun (W : World) => slHiE (some ⟨ga, 0, none⟩) (m + 1) ca m (by omega) W
    have HCN := Lib.hid (cntB_take (m := m) (by omega) hcnt)
    have h40i : (m : Int) ≤ 39 := by omega
    have HR := Lib.hid (reads_hiE HX.out m (by omega))
    clear hn h40 hcnt hst h1 hc
    go_wp2_with fail
    refine (ibookOf ga m ca (xs.take m) _ (by omega) (HR.out.in_ (by (repeat (first | exact In.refl _ | assumption | apply In.alloc | apply In.drewN | apply In.drew | (refine In.step ?_ (by assumption))))))).mono ?_
    rintro _ w_2 (⟨hcb, _, _⟩ | ⟨hcb, gE_2, cE_2, rfl, hoE_2, hgE_2, hb_2⟩)
    · rw [HCN.out] at hcb; cases hcb
    clear hcb
    rw [stTo_take]
    have GX_E : Hid (w.heap.size ≤ gE_2) := Lib.hid (by have h1 := hgE_2; (try simp at h1); have h2 := In.size i_1; omega)
    have o_2_E : OCEvent w_2 gE_2 (m) cE_2 (xs.take m) := hoE_2
    clear hoE_2 hgE_2
    have i_2 : In w.heap.size w w_2 := In.step (by (repeat (first | exact In.refl _ | assumption | apply In.alloc | apply In.drewN | apply In.drew | (refine In.step ?_ (by assumption))))) hb_2
    have k_2_A : Blk w_2 b_A 51 #[.slice (some ⟨ga, 0, none⟩) (m + 1) ca, .int .i64 a, .int .i64 b, .int .i64 c, .int .i64 d, .int .i64 e, .int .i64 f] := Blk.step (by (with_reducible (repeat (first | assumption | exact Blk.new' (by simp) | apply Blk.drewN | apply Blk.drew | apply Blk.alloc | (refine Blk.far ?_ (by (try simp) <;> omega) _))))) hb_2
    have c_2_A_0 : w_2.cell? ⟨b_A, 0, none⟩ = some (.slice (some ⟨ga, 0, none⟩) (m + 1) ca) := k_2_A.cell 0
    have c_2_A_1 : w_2.cell? ⟨b_A, 1, none⟩ = some (.int .i64 a) := k_2_A.cell 1
    have c_2_A_2 : w_2.cell? ⟨b_A, 2, none⟩ = some (.int .i64 b) := k_2_A.cell 2
    have c_2_A_3 : w_2.cell? ⟨b_A, 3, none⟩ = some (.int .i64 c) := k_2_A.cell 3
    have c_2_A_4 : w_2.cell? ⟨b_A, 4, none⟩ = some (.int .i64 d) := k_2_A.cell 4
    have c_2_A_5 : w_2.cell? ⟨b_A, 5, none⟩ = some (.int .i64 e) := k_2_A.cell 5
    have c_2_A_6 : w_2.cell? ⟨b_A, 6, none⟩ = some (.int .i64 f) := k_2_A.cell 6
    have l_2_A := k_2_A.lt
    have k_2_R : Blk w_2 b_R 51 #[.slice none 0 0, .int .i64 0, .int .i64 0, .int .i64 0, .int .i64 0, .int .i64 0, .int .i64 0] := Blk.step (by (with_reducible (repeat (first | assumption | exact Blk.new' (by simp) | apply Blk.drewN | apply Blk.drew | apply Blk.alloc | (refine Blk.far ?_ (by (try simp) <;> omega) _))))) hb_2
    have c_2_R_0 : w_2.cell? ⟨b_R, 0, none⟩ = some (.slice none 0 0) := k_2_R.cell 0
    have c_2_R_1 : w_2.cell? ⟨b_R, 1, none⟩ = some (.int .i64 0) := k_2_R.cell 1
    have c_2_R_2 : w_2.cell? ⟨b_R, 2, none⟩ = some (.int .i64 0) := k_2_R.cell 2
    have c_2_R_3 : w_2.cell? ⟨b_R, 3, none⟩ = some (.int .i64 0) := k_2_R.cell 3
    have c_2_R_4 : w_2.cell? ⟨b_R, 4, none⟩ = some (.int .i64 0) := k_2_R.cell 4
    have c_2_R_5 : w_2.cell? ⟨b_R, 5, none⟩ = some (.int .i64 0) := k_2_R.cell 5
    have c_2_R_6 : w_2.cell? ⟨b_R, 6, none⟩ = some (.int .i64 0) := k_2_R.cell 6
    have l_2_R := k_2_R.lt
    have z_2_R := k_2_R.frozen
    clear i_1 k_1_A c_1_A_0 c_1_A_1 c_1_A_2 c_1_A_3 c_1_A_4 c_1_A_5 c_1_A_6 l_1_A k_1_R c_1_R_0 c_1_R_1 c_1_R_2 c_1_R_3 c_1_R_4 c_1_R_5 c_1_R_6 l_1_R z_1_R hb_1
    generalize hs9 : stTo xs m = s
    have HS := Lib.hid hs9
    clear hs9
    have hn1_R_A : b_A ≠ b_R := by first | exact NB_A_R.out | exact NB_R_A.out.symm
    have hn2_R_A : b_R ≠ b_A := hn1_R_A.symm
    have kk : Blk (((((((w_2.setCell ⟨b_R, 0, none⟩ (.slice (some ⟨gE_2, 0, none⟩) m cE_2)).setCell ⟨b_R, 1, none⟩ (.int .i64 s.r0)).setCell ⟨b_R, 2, none⟩ (.int .i64 s.r1)).setCell ⟨b_R, 3, none⟩ (.int .i64 s.r2)).setCell ⟨b_R, 4, none⟩ (.int .i64 s.bk)).setCell ⟨b_R, 5, none⟩ (.int .i64 s.sd)).setCell ⟨b_R, 6, none⟩ (.int .i64 s.th)) b_R 51 #[.slice (some ⟨gE_2, 0, none⟩) m cE_2, .int .i64 s.r0, .int .i64 s.r1, .int .i64 s.r2, .int .i64 s.bk, .int .i64 s.sd, .int .i64 s.th] := by
      have h := (((((((k_2_R.set_ 0 (.slice (some ⟨gE_2, 0, none⟩) m cE_2)).set_ 1 (.int .i64 s.r0)).set_ 2 (.int .i64 s.r1)).set_ 3 (.int .i64 s.r2)).set_ 4 (.int .i64 s.bk)).set_ 5 (.int .i64 s.sd)).set_ 6 (.int .i64 s.th))
      simpa using h
    have i9 : In w.heap.size w (((((((w_2.setCell ⟨b_R, 0, none⟩ (.slice (some ⟨gE_2, 0, none⟩) m cE_2)).setCell ⟨b_R, 1, none⟩ (.int .i64 s.r0)).setCell ⟨b_R, 2, none⟩ (.int .i64 s.r1)).setCell ⟨b_R, 3, none⟩ (.int .i64 s.r2)).setCell ⟨b_R, 4, none⟩ (.int .i64 s.bk)).setCell ⟨b_R, 5, none⟩ (.int .i64 s.sd)).setCell ⟨b_R, 6, none⟩ (.int .i64 s.th)) := (In.set_ (In.set_ (In.set_ (In.set_ (In.set_ (In.set_ (In.set_ i_2 (p := ⟨b_R, 0, none⟩) hwb_R (.slice (some ⟨gE_2, 0, none⟩) m cE_2)) (p := ⟨b_R, 1, none⟩) hwb_R (.int .i64 s.r0)) (p := ⟨b_R, 2, none⟩) hwb_R (.int .i64 s.r1)) (p := ⟨b_R, 3, none⟩) hwb_R (.int .i64 s.r2)) (p := ⟨b_R, 4, none⟩) hwb_R (.int .i64 s.bk)) (p := ⟨b_R, 5, none⟩) hwb_R (.int .i64 s.sd)) (p := ⟨b_R, 6, none⟩) hwb_R (.int .i64 s.th))
    have OE : Hid (OCEvent (((((((w_2.setCell ⟨b_R, 0, none⟩ (.slice (some ⟨gE_2, 0, none⟩) m cE_2)).setCell ⟨b_R, 1, none⟩ (.int .i64 s.r0)).setCell ⟨b_R, 2, none⟩ (.int .i64 s.r1)).setCell ⟨b_R, 3, none⟩ (.int .i64 s.r2)).setCell ⟨b_R, 4, none⟩ (.int .i64 s.bk)).setCell ⟨b_R, 5, none⟩ (.int .i64 s.sd)).setCell ⟨b_R, 6, none⟩ (.int .i64 s.th)) gE_2 (m) cE_2 (xs.take m)) := Lib.hid (OCEvent.far (OCEvent.far (OCEvent.far (OCEvent.far (OCEvent.far (OCEvent.far (OCEvent.far o_2_E k_2_R (by decide) (only_set ⟨b_R, 0, none⟩ (.slice (some ⟨gE_2, 0, none⟩) m cE_2))) (k_2_R.set_ 0 (.slice (some ⟨gE_2, 0, none⟩) m cE_2)) (by decide) (only_set ⟨b_R, 1, none⟩ (.int .i64 s.r0))) ((k_2_R.set_ 0 (.slice (some ⟨gE_2, 0, none⟩) m cE_2)).set_ 1 (.int .i64 s.r0)) (by decide) (only_set ⟨b_R, 2, none⟩ (.int .i64 s.r1))) (((k_2_R.set_ 0 (.slice (some ⟨gE_2, 0, none⟩) m cE_2)).set_ 1 (.int .i64 s.r0)).set_ 2 (.int .i64 s.r1)) (by decide) (only_set ⟨b_R, 3, none⟩ (.int .i64 s.r2))) ((((k_2_R.set_ 0 (.slice (some ⟨gE_2, 0, none⟩) m cE_2)).set_ 1 (.int .i64 s.r0)).set_ 2 (.int .i64 s.r1)).set_ 3 (.int .i64 s.r2)) (by decide) (only_set ⟨b_R, 4, none⟩ (.int .i64 s.bk))) (((((k_2_R.set_ 0 (.slice (some ⟨gE_2, 0, none⟩) m cE_2)).set_ 1 (.int .i64 s.r0)).set_ 2 (.int .i64 s.r1)).set_ 3 (.int .i64 s.r2)).set_ 4 (.int .i64 s.bk)) (by decide) (only_set ⟨b_R, 5, none⟩ (.int .i64 s.sd))) ((((((k_2_R.set_ 0 (.slice (some ⟨gE_2, 0, none⟩) m cE_2)).set_ 1 (.int .i64 s.r0)).set_ 2 (.int .i64 s.r1)).set_ 3 (.int .i64 s.r2)).set_ 4 (.int .i64 s.bk)).set_ 5 (.int .i64 s.sd)) (by decide) (only_set ⟨b_R, 6, none⟩ (.int .i64 s.th)))
    have HK0 : Hid ((((((((w_2.setCell ⟨b_R, 0, none⟩ (.slice (some ⟨gE_2, 0, none⟩) m cE_2)).setCell ⟨b_R, 1, none⟩ (.int .i64 s.r0)).setCell ⟨b_R, 2, none⟩ (.int .i64 s.r1)).setCell ⟨b_R, 3, none⟩ (.int .i64 s.r2)).setCell ⟨b_R, 4, none⟩ (.int .i64 s.bk)).setCell ⟨b_R, 5, none⟩ (.int .i64 s.sd)).setCell ⟨b_R, 6, none⟩ (.int .i64 s.th)).cell? ⟨b_R, 0, none⟩ = some (.slice (some ⟨gE_2, 0, none⟩) m cE_2)) := Lib.hid (kk.cell 0)
    have HK1 : Hid ((((((((w_2.setCell ⟨b_R, 0, none⟩ (.slice (some ⟨gE_2, 0, none⟩) m cE_2)).setCell ⟨b_R, 1, none⟩ (.int .i64 s.r0)).setCell ⟨b_R, 2, none⟩ (.int .i64 s.r1)).setCell ⟨b_R, 3, none⟩ (.int .i64 s.r2)).setCell ⟨b_R, 4, none⟩ (.int .i64 s.bk)).setCell ⟨b_R, 5, none⟩ (.int .i64 s.sd)).setCell ⟨b_R, 6, none⟩ (.int .i64 s.th)).cell? ⟨b_R, 1, none⟩ = some (.int .i64 s.r0)) := Lib.hid (kk.cell 1)
    have HK2 : Hid ((((((((w_2.setCell ⟨b_R, 0, none⟩ (.slice (some ⟨gE_2, 0, none⟩) m cE_2)).setCell ⟨b_R, 1, none⟩ (.int .i64 s.r0)).setCell ⟨b_R, 2, none⟩ (.int .i64 s.r1)).setCell ⟨b_R, 3, none⟩ (.int .i64 s.r2)).setCell ⟨b_R, 4, none⟩ (.int .i64 s.bk)).setCell ⟨b_R, 5, none⟩ (.int .i64 s.sd)).setCell ⟨b_R, 6, none⟩ (.int .i64 s.th)).cell? ⟨b_R, 2, none⟩ = some (.int .i64 s.r1)) := Lib.hid (kk.cell 2)
    have HK3 : Hid ((((((((w_2.setCell ⟨b_R, 0, none⟩ (.slice (some ⟨gE_2, 0, none⟩) m cE_2)).setCell ⟨b_R, 1, none⟩ (.int .i64 s.r0)).setCell ⟨b_R, 2, none⟩ (.int .i64 s.r1)).setCell ⟨b_R, 3, none⟩ (.int .i64 s.r2)).setCell ⟨b_R, 4, none⟩ (.int .i64 s.bk)).setCell ⟨b_R, 5, none⟩ (.int .i64 s.sd)).setCell ⟨b_R, 6, none⟩ (.int .i64 s.th)).cell? ⟨b_R, 3, none⟩ = some (.int .i64 s.r2)) := Lib.hid (kk.cell 3)
    have HK4 : Hid ((((((((w_2.setCell ⟨b_R, 0, none⟩ (.slice (some ⟨gE_2, 0, none⟩) m cE_2)).setCell ⟨b_R, 1, none⟩ (.int .i64 s.r0)).setCell ⟨b_R, 2, none⟩ (.int .i64 s.r1)).setCell ⟨b_R, 3, none⟩ (.int .i64 s.r2)).setCell ⟨b_R, 4, none⟩ (.int .i64 s.bk)).setCell ⟨b_R, 5, none⟩ (.int .i64 s.sd)).setCell ⟨b_R, 6, none⟩ (.int .i64 s.th)).cell? ⟨b_R, 4, none⟩ = some (.int .i64 s.bk)) := Lib.hid (kk.cell 4)
    have HK5 : Hid ((((((((w_2.setCell ⟨b_R, 0, none⟩ (.slice (some ⟨gE_2, 0, none⟩) m cE_2)).setCell ⟨b_R, 1, none⟩ (.int .i64 s.r0)).setCell ⟨b_R, 2, none⟩ (.int .i64 s.r1)).setCell ⟨b_R, 3, none⟩ (.int .i64 s.r2)).setCell ⟨b_R, 4, none⟩ (.int .i64 s.bk)).setCell ⟨b_R, 5, none⟩ (.int .i64 s.sd)).setCell ⟨b_R, 6, none⟩ (.int .i64 s.th)).cell? ⟨b_R, 5, none⟩ = some (.int .i64 s.sd)) := Lib.hid (kk.cell 5)
    have HK6 : Hid ((((((((w_2.setCell ⟨b_R, 0, none⟩ (.slice (some ⟨gE_2, 0, none⟩) m cE_2)).setCell ⟨b_R, 1, none⟩ (.int .i64 s.r0)).setCell ⟨b_R, 2, none⟩ (.int .i64 s.r1)).setCell ⟨b_R, 3, none⟩ (.int .i64 s.r2)).setCell ⟨b_R, 4, none⟩ (.int .i64 s.bk)).setCell ⟨b_R, 5, none⟩ (.int .i64 s.sd)).setCell ⟨b_R, 6, none⟩ (.int .i64 s.th)).cell? ⟨b_R, 6, none⟩ = some (.int .i64 s.th)) := Lib.hid (kk.cell 6)
    clear kk
    clear o_2_E
    go_wp2
    have hk0 := HK0.out
    have hk1 := HK1.out
    have hk2 := HK2.out
    have hk3 := HK3.out
    have hk4 := HK4.out
    have hk5 := HK5.out
    have hk6 := HK6.out
    exact bodyPost_ret (v := .tuple #[.agg #[.slice (some ⟨gE_2, 0, none⟩) m cE_2, .int .i64 s.r0, .int .i64 s.r1, .int .i64 s.r2, .int .i64 s.bk, .int .i64 s.sd, .int .i64 s.th], .bool true]) (by simp [results, Try.results41, go_sem, hk0, hk1, hk2, hk3, hk4, hk5, hk6]) rfl (rowBkV_of (s := s) (by simp [skL, HV.out]) (by simp [skS, HV.out, HS.out]) (by rw [HV.out]) OE.out GX_E.out i9.below)
end Go.Proofs.Ytmlemplkbkgjfaa
