/- Chapter 38: entering an event, the model. -/
import Derived.Test.YtmcfghklfkmfkaaE38
import Derived.Test.YtmcfghklfkmfkaaEn37
namespace Go.Proofs.Ytmcfghklfkmfkaa
open Go.ChangeShapes Go.WideShapes Go.ChangeAt Go.RowKit
set_option linter.unusedVariables false
set_option linter.unusedSimpArgs false
set_option maxHeartbeats 2000000

def yeB (n : Nat) (xs : List Int) (m : Nat) (ys : List EventR) (a0 a1 a2 a3 a4 a5 a6 a7 a8 a9 a10 a11 : Int) (k l dm : Int) : Bool := yOk n xs m ys a0 a1 a2 a3 a4 a5 a6 a7 a8 a9 a10 a11 && (enB m ys a5 a6 a7 a8 a9 a10 k l && inB (a11 + dm) 0 1000000)
def yeL (n : Nat) (xs : List Int) (m : Nat) (ys : List EventR) (a0 a1 a2 a3 a4 a5 a6 a7 a8 a9 a10 a11 : Int) (k l dm : Int) : List EventR := if yeB n xs m ys a0 a1 a2 a3 a4 a5 a6 a7 a8 a9 a10 a11 k l dm then enL m ys a5 a6 a7 a8 a9 a10 k l else ys
def yeS (n : Nat) (xs : List Int) (m : Nat) (ys : List EventR) (a0 a1 a2 a3 a4 a5 a6 a7 a8 a9 a10 a11 : Int) (k l dm : Int) : BkS := if yeB n xs m ys a0 a1 a2 a3 a4 a5 a6 a7 a8 a9 a10 a11 k l dm then enS m ys a5 a6 a7 a8 a9 a10 k l else ⟨a5, a6, a7, a8, a9, a10⟩
def yeM (n : Nat) (xs : List Int) (m : Nat) (ys : List EventR) (a0 a1 a2 a3 a4 a5 a6 a7 a8 a9 a10 a11 : Int) (k l dm : Int) : Int := if yeB n xs m ys a0 a1 a2 a3 a4 a5 a6 a7 a8 a9 a10 a11 k l dm then a11 + dm else a11
theorem bk_en {n : Nat} {xs : List EventR} {y0 y1 y2 y3 y4 y5 x0 x1 : Int} (hl : xs.length = n) (h : enB n xs y0 y1 y2 y3 y4 y5 x0 x1 = true) : bkB (enL n xs y0 y1 y2 y3 y4 y5 x0 x1).length (enL n xs y0 y1 y2 y3 y4 y5 x0 x1) (enS n xs y0 y1 y2 y3 y4 y5 x0 x1).r0 (enS n xs y0 y1 y2 y3 y4 y5 x0 x1).r1 (enS n xs y0 y1 y2 y3 y4 y5 x0 x1).r2 (enS n xs y0 y1 y2 y3 y4 y5 x0 x1).bk (enS n xs y0 y1 y2 y3 y4 y5 x0 x1).sd (enS n xs y0 y1 y2 y3 y4 y5 x0 x1).th = true := by
  rw [enL, enS, if_pos h, if_pos h, List.length_append, hl]
  simp only [enB, Bool.and_eq_true, decide_eq_true_eq] at h
  show bkB (n + 1) _ _ _ _ _ _ _ = true
  simp [bkB, h.2.1, h.2.2]
theorem yOk_en {n : Nat} {xs : List Int} {m : Nat} {ys : List EventR} {a0 a1 a2 a3 a4 a5 a6 a7 a8 a9 a10 a11 k l dm : Int} (hl : ys.length = m) (h : yOk n xs m ys a0 a1 a2 a3 a4 a5 a6 a7 a8 a9 a10 a11 = true) (he : enB m ys a5 a6 a7 a8 a9 a10 k l = true) : yOk n xs (enL m ys a5 a6 a7 a8 a9 a10 k l).length (enL m ys a5 a6 a7 a8 a9 a10 k l) a0 a1 a2 a3 a4 (enS m ys a5 a6 a7 a8 a9 a10 k l).r0 (enS m ys a5 a6 a7 a8 a9 a10 k l).r1 (enS m ys a5 a6 a7 a8 a9 a10 k l).r2 (enS m ys a5 a6 a7 a8 a9 a10 k l).bk (enS m ys a5 a6 a7 a8 a9 a10 k l).sd (enS m ys a5 a6 a7 a8 a9 a10 k l).th (a11 + dm) = inB (a11 + dm) 0 1000000 := by
  have h2 := bk_en hl he
  simp only [yOk, Bool.and_eq_true] at h
  simp only [yOk, h.1, h.2.1, h.2.2.1, h2, Bool.true_and]
theorem yOk_m {n : Nat} {xs : List Int} {m : Nat} {ys : List EventR} {a0 a1 a2 a3 a4 a5 a6 a7 a8 a9 a10 a11 : Int} (h : yOk n xs m ys a0 a1 a2 a3 a4 a5 a6 a7 a8 a9 a10 a11 = true) : m ≤ 40 ∧ 0 ≤ a11 ∧ a11 ≤ 1000000 := by
  simp only [yOk, Bool.and_eq_true] at h
  exact ⟨(bk_at h.2.2.2.1).1, inB_tt h.2.2.2.2⟩
theorem rowYV_of {w w' : World} {g cp h dp n m : Nat} {xs : List Int} {ys zs : List EventR} {a0 a1 a2 a3 a4 a5 a6 a7 a8 a9 a10 a11 t5 t6 t7 t8 t9 t10 t11 : Int} {v u : Value} (hz : zs = ys) (h5 : t5 = a5) (h6 : t6 = a6) (h7 : t7 = a7) (h8 : t8 = a8) (h9 : t9 = a9) (h10 : t10 = a10) (h11 : t11 = a11) (hv : u = v) (ho : OwnC w' g n cp xs) (hg : w.heap.size ≤ g) (hp : OCEvent w' h m dp ys) (hh : w.heap.size ≤ h) (hb : Below w.heap.size w w') :
    RowYV n xs zs.length zs a0 a1 a2 a3 a4 t5 t6 t7 t8 t9 t10 t11 u w (.returned (.tuple #[.agg #[.slice (some ⟨g, 0, none⟩) n cp, .int .i64 a0, .int .i64 a1, .int .i64 a2, .int .i64 a3, .int .i64 a4, .slice (some ⟨h, 0, none⟩) m dp, .int .i64 a5, .int .i64 a6, .int .i64 a7, .int .i64 a8, .int .i64 a9, .int .i64 a10, .int .i64 a11], v])) w' := by
  subst hz h5 h6 h7 h8 h9 h10 h11 hv
  have hl := hp.len
  subst hl
  exact ⟨g, cp, h, dp, rfl, ho, hg, hp, hh, hb⟩
set_option maxHeartbeats 8000000 in
theorem s38Enter (g n c : Nat) (xs : List Int) (h m d : Nat) (ys : List EventR) (a0 a1 a2 a3 a4 a5 a6 a7 a8 a9 a10 a11 : Int) (k l dm : Int) (w : World) (hn : (n : Int) ≤ 1048576) (hm : (m : Int) ≤ 1048576) (hd1 : 0 ≤ dm) (hd2 : dm ≤ 10000) (hx : ReadsI w (some ⟨g, 0, none⟩) n xs) (hy : ReadsEvent w (some ⟨h, 0, none⟩) m ys) : Calls Try.prog 38 #[.agg #[.slice (some ⟨g, 0, none⟩) n c, .int .i64 a0, .int .i64 a1, .int .i64 a2, .int .i64 a3, .int .i64 a4, .slice (some ⟨h, 0, none⟩) m d, .int .i64 a5, .int .i64 a6, .int .i64 a7, .int .i64 a8, .int .i64 a9, .int .i64 a10, .int .i64 a11], .agg #[.int .i64 k, .int .i64 l], .int .i64 dm] w (RowYV n xs (yeL n xs m ys a0 a1 a2 a3 a4 a5 a6 a7 a8 a9 a10 a11 k l dm).length (yeL n xs m ys a0 a1 a2 a3 a4 a5 a6 a7 a8 a9 a10 a11 k l dm) a0 a1 a2 a3 a4 (yeS n xs m ys a0 a1 a2 a3 a4 a5 a6 a7 a8 a9 a10 a11 k l dm).r0 (yeS n xs m ys a0 a1 a2 a3 a4 a5 a6 a7 a8 a9 a10 a11 k l dm).r1 (yeS n xs m ys a0 a1 a2 a3 a4 a5 a6 a7 a8 a9 a10 a11 k l dm).r2 (yeS n xs m ys a0 a1 a2 a3 a4 a5 a6 a7 a8 a9 a10 a11 k l dm).bk (yeS n xs m ys a0 a1 a2 a3 a4 a5 a6 a7 a8 a9 a10 a11 k l dm).sd (yeS n xs m ys a0 a1 a2 a3 a4 a5 a6 a7 a8 a9 a10 a11 k l dm).th (yeM n xs m ys a0 a1 a2 a3 a4 a5 a6 a7 a8 a9 a10 a11 k l dm) (.bool (yeB n xs m ys a0 a1 a2 a3 a4 a5 a6 a7 a8 a9 a10 a11 k l dm)) w) := by
  have HX := Lib.hid hx
  have HY := Lib.hid hy
  have hlen := hy.1
  clear hx hy
  obtain ⟨b_A, hbx_A⟩ : ∃ b, b = w.heap.size := ⟨_, rfl⟩
  have kk_A : Blk (((w.alloc (.cells #[.slice (some ⟨g, 0, none⟩) n c, .int .i64 a0, .int .i64 a1, .int .i64 a2, .int .i64 a3, .int .i64 a4, .slice (some ⟨h, 0, none⟩) m d, .int .i64 a5, .int .i64 a6, .int .i64 a7, .int .i64 a8, .int .i64 a9, .int .i64 a10, .int .i64 a11] 45)).alloc (.cells #[.int .i64 k, .int .i64 l] 78)).alloc (.cells #[.slice none 0 0, .int .i64 0, .int .i64 0, .int .i64 0, .int .i64 0, .int .i64 0, .slice none 0 0, .int .i64 0, .int .i64 0, .int .i64 0, .int .i64 0, .int .i64 0, .int .i64 0, .int .i64 0] 45)) b_A 45 #[.slice (some ⟨g, 0, none⟩) n c, .int .i64 a0, .int .i64 a1, .int .i64 a2, .int .i64 a3, .int .i64 a4, .slice (some ⟨h, 0, none⟩) m d, .int .i64 a5, .int .i64 a6, .int .i64 a7, .int .i64 a8, .int .i64 a9, .int .i64 a10, .int .i64 a11] := (((Blk.new' (w := w) (t := 45) (cs := #[.slice (some ⟨g, 0, none⟩) n c, .int .i64 a0, .int .i64 a1, .int .i64 a2, .int .i64 a3, .int .i64 a4, .slice (some ⟨h, 0, none⟩) m d, .int .i64 a5, .int .i64 a6, .int .i64 a7, .int .i64 a8, .int .i64 a9, .int .i64 a10, .int .i64 a11]) (g := b_A) (by simp [hbx_A])).alloc (.cells #[.int .i64 k, .int .i64 l] 78)).alloc (.cells #[.slice none 0 0, .int .i64 0, .int .i64 0, .int .i64 0, .int .i64 0, .int .i64 0, .slice none 0 0, .int .i64 0, .int .i64 0, .int .i64 0, .int .i64 0, .int .i64 0, .int .i64 0, .int .i64 0] 45))
  have hwb_A : w.heap.size ≤ b_A := by omega
  obtain ⟨b_E, hbx_E⟩ : ∃ b, b = w.heap.size + 1 := ⟨_, rfl⟩
  have kk_E : Blk (((w.alloc (.cells #[.slice (some ⟨g, 0, none⟩) n c, .int .i64 a0, .int .i64 a1, .int .i64 a2, .int .i64 a3, .int .i64 a4, .slice (some ⟨h, 0, none⟩) m d, .int .i64 a5, .int .i64 a6, .int .i64 a7, .int .i64 a8, .int .i64 a9, .int .i64 a10, .int .i64 a11] 45)).alloc (.cells #[.int .i64 k, .int .i64 l] 78)).alloc (.cells #[.slice none 0 0, .int .i64 0, .int .i64 0, .int .i64 0, .int .i64 0, .int .i64 0, .slice none 0 0, .int .i64 0, .int .i64 0, .int .i64 0, .int .i64 0, .int .i64 0, .int .i64 0, .int .i64 0] 45)) b_E 78 #[.int .i64 k, .int .i64 l] := ((Blk.new' (w := (w.alloc (.cells #[.slice (some ⟨g, 0, none⟩) n c, .int .i64 a0, .int .i64 a1, .int .i64 a2, .int .i64 a3, .int .i64 a4, .slice (some ⟨h, 0, none⟩) m d, .int .i64 a5, .int .i64 a6, .int .i64 a7, .int .i64 a8, .int .i64 a9, .int .i64 a10, .int .i64 a11] 45))) (t := 78) (cs := #[.int .i64 k, .int .i64 l]) (g := b_E) (by simp [hbx_E])).alloc (.cells #[.slice none 0 0, .int .i64 0, .int .i64 0, .int .i64 0, .int .i64 0, .int .i64 0, .slice none 0 0, .int .i64 0, .int .i64 0, .int .i64 0, .int .i64 0, .int .i64 0, .int .i64 0, .int .i64 0] 45))
  have hwb_E : w.heap.size ≤ b_E := by omega
  obtain ⟨b_R, hbx_R⟩ : ∃ b, b = w.heap.size + 1 + 1 := ⟨_, rfl⟩
  have kk_R : Blk (((w.alloc (.cells #[.slice (some ⟨g, 0, none⟩) n c, .int .i64 a0, .int .i64 a1, .int .i64 a2, .int .i64 a3, .int .i64 a4, .slice (some ⟨h, 0, none⟩) m d, .int .i64 a5, .int .i64 a6, .int .i64 a7, .int .i64 a8, .int .i64 a9, .int .i64 a10, .int .i64 a11] 45)).alloc (.cells #[.int .i64 k, .int .i64 l] 78)).alloc (.cells #[.slice none 0 0, .int .i64 0, .int .i64 0, .int .i64 0, .int .i64 0, .int .i64 0, .slice none 0 0, .int .i64 0, .int .i64 0, .int .i64 0, .int .i64 0, .int .i64 0, .int .i64 0, .int .i64 0] 45)) b_R 45 #[.slice none 0 0, .int .i64 0, .int .i64 0, .int .i64 0, .int .i64 0, .int .i64 0, .slice none 0 0, .int .i64 0, .int .i64 0, .int .i64 0, .int .i64 0, .int .i64 0, .int .i64 0, .int .i64 0] := (Blk.new' (w := ((w.alloc (.cells #[.slice (some ⟨g, 0, none⟩) n c, .int .i64 a0, .int .i64 a1, .int .i64 a2, .int .i64 a3, .int .i64 a4, .slice (some ⟨h, 0, none⟩) m d, .int .i64 a5, .int .i64 a6, .int .i64 a7, .int .i64 a8, .int .i64 a9, .int .i64 a10, .int .i64 a11] 45)).alloc (.cells #[.int .i64 k, .int .i64 l] 78))) (t := 45) (cs := #[.slice none 0 0, .int .i64 0, .int .i64 0, .int .i64 0, .int .i64 0, .int .i64 0, .slice none 0 0, .int .i64 0, .int .i64 0, .int .i64 0, .int .i64 0, .int .i64 0, .int .i64 0, .int .i64 0]) (g := b_R) (by simp [hbx_R]))
  have hwb_R : w.heap.size ≤ b_R := by omega
  have NB_A_E : Hid (b_A ≠ b_E) := Lib.hid (by omega)
  have NB_A_R : Hid (b_A ≠ b_R) := Lib.hid (by omega)
  have NB_E_R : Hid (b_E ≠ b_R) := Lib.hid (by omega)
  have hb_0 : Below w.heap.size w (((w.alloc (.cells #[.slice (some ⟨g, 0, none⟩) n c, .int .i64 a0, .int .i64 a1, .int .i64 a2, .int .i64 a3, .int .i64 a4, .slice (some ⟨h, 0, none⟩) m d, .int .i64 a5, .int .i64 a6, .int .i64 a7, .int .i64 a8, .int .i64 a9, .int .i64 a10, .int .i64 a11] 45)).alloc (.cells #[.int .i64 k, .int .i64 l] 78)).alloc (.cells #[.slice none 0 0, .int .i64 0, .int .i64 0, .int .i64 0, .int .i64 0, .int .i64 0, .slice none 0 0, .int .i64 0, .int .i64 0, .int .i64 0, .int .i64 0, .int .i64 0, .int .i64 0, .int .i64 0] 45)) := by
    have h : In w.heap.size w (((w.alloc (.cells #[.slice (some ⟨g, 0, none⟩) n c, .int .i64 a0, .int .i64 a1, .int .i64 a2, .int .i64 a3, .int .i64 a4, .slice (some ⟨h, 0, none⟩) m d, .int .i64 a5, .int .i64 a6, .int .i64 a7, .int .i64 a8, .int .i64 a9, .int .i64 a10, .int .i64 a11] 45)).alloc (.cells #[.int .i64 k, .int .i64 l] 78)).alloc (.cells #[.slice none 0 0, .int .i64 0, .int .i64 0, .int .i64 0, .int .i64 0, .int .i64 0, .slice none 0 0, .int .i64 0, .int .i64 0, .int .i64 0, .int .i64 0, .int .i64 0, .int .i64 0, .int .i64 0] 45)) := by (repeat (first | exact In.refl _ | assumption | apply In.alloc | apply In.drewN | apply In.drew | (refine In.step ?_ (by assumption))))
    exact h.below
  have hsz_0 : (((w.alloc (.cells #[.slice (some ⟨g, 0, none⟩) n c, .int .i64 a0, .int .i64 a1, .int .i64 a2, .int .i64 a3, .int .i64 a4, .slice (some ⟨h, 0, none⟩) m d, .int .i64 a5, .int .i64 a6, .int .i64 a7, .int .i64 a8, .int .i64 a9, .int .i64 a10, .int .i64 a11] 45)).alloc (.cells #[.int .i64 k, .int .i64 l] 78)).alloc (.cells #[.slice none 0 0, .int .i64 0, .int .i64 0, .int .i64 0, .int .i64 0, .int .i64 0, .slice none 0 0, .int .i64 0, .int .i64 0, .int .i64 0, .int .i64 0, .int .i64 0, .int .i64 0, .int .i64 0] 45)).heap.size = b_R + 1 := by simp [hbx_R]
  go_enter Try.func38, Try.ntmps38
  go_wp2_with fail
  rw [← hbx_R]
  clear hbx_R
  rw [← hbx_E]
  clear hbx_E
  rw [← hbx_A]
  clear hbx_A
  generalize (((w.alloc (.cells #[.slice (some ⟨g, 0, none⟩) n c, .int .i64 a0, .int .i64 a1, .int .i64 a2, .int .i64 a3, .int .i64 a4, .slice (some ⟨h, 0, none⟩) m d, .int .i64 a5, .int .i64 a6, .int .i64 a7, .int .i64 a8, .int .i64 a9, .int .i64 a10, .int .i64 a11] 45)).alloc (.cells #[.int .i64 k, .int .i64 l] 78)).alloc (.cells #[.slice none 0 0, .int .i64 0, .int .i64 0, .int .i64 0, .int .i64 0, .int .i64 0, .slice none 0 0, .int .i64 0, .int .i64 0, .int .i64 0, .int .i64 0, .int .i64 0, .int .i64 0, .int .i64 0] 45)) = w_0 at *
  have i_0 : In w.heap.size w w_0 := In.step (by (repeat (first | exact In.refl _ | assumption | apply In.alloc | apply In.drewN | apply In.drew | (refine In.step ?_ (by assumption))))) hb_0
  have k_0_A : Blk w_0 b_A 45 #[.slice (some ⟨g, 0, none⟩) n c, .int .i64 a0, .int .i64 a1, .int .i64 a2, .int .i64 a3, .int .i64 a4, .slice (some ⟨h, 0, none⟩) m d, .int .i64 a5, .int .i64 a6, .int .i64 a7, .int .i64 a8, .int .i64 a9, .int .i64 a10, .int .i64 a11] := kk_A
  obtain ⟨c_0_A_0, c_0_A_1, c_0_A_2, c_0_A_3, c_0_A_4, c_0_A_5, c_0_A_6, c_0_A_7, c_0_A_8, c_0_A_9, c_0_A_10, c_0_A_11, c_0_A_12, c_0_A_13⟩ := cells14 k_0_A
  have l_0_A := k_0_A.lt
  have k_0_E : Blk w_0 b_E 78 #[.int .i64 k, .int .i64 l] := kk_E
  obtain ⟨c_0_E_0, c_0_E_1⟩ := cells2 k_0_E
  have l_0_E := k_0_E.lt
  have k_0_R : Blk w_0 b_R 45 #[.slice none 0 0, .int .i64 0, .int .i64 0, .int .i64 0, .int .i64 0, .int .i64 0, .slice none 0 0, .int .i64 0, .int .i64 0, .int .i64 0, .int .i64 0, .int .i64 0, .int .i64 0, .int .i64 0] := kk_R
  obtain ⟨c_0_R_0, c_0_R_1, c_0_R_2, c_0_R_3, c_0_R_4, c_0_R_5, c_0_R_6, c_0_R_7, c_0_R_8, c_0_R_9, c_0_R_10, c_0_R_11, c_0_R_12, c_0_R_13⟩ := cells14 k_0_R
  have l_0_R := k_0_R.lt
  have z_0_R := k_0_R.frozen
  clear kk_A kk_E kk_R
  go_wp2_with fail
  refine (s38Copy g n c xs h m d ys a0 a1 a2 a3 a4 a5 a6 a7 a8 a9 a10 a11 _ hn (by omega) (HX.out.in_ (by (repeat (first | exact In.refl _ | assumption | apply In.alloc | apply In.drewN | apply In.drew | (refine In.step ?_ (by assumption)))))) (HY.out.in_ (by (repeat (first | exact In.refl _ | assumption | apply In.alloc | apply In.drewN | apply In.drew | (refine In.step ?_ (by assumption))))))).mono ?_
  rintro _ w_1 ⟨gS_1, cS_1, gQ_1, cQ_1, rfl, hoS_1, hgS_1, hoQ_1, hgQ_1, hb_1⟩
  have GX_S : Hid (w.heap.size ≤ gS_1) := Lib.hid (by have h1 := hgS_1; (try simp at h1); have h2 := In.size i_0; omega)
  have o_1_S : OwnC w_1 gS_1 (n) cS_1 xs := hoS_1
  clear hoS_1 hgS_1
  have NE_S_Q : Hid (gS_1 ≠ gQ_1) := Lib.hid (ne_OwnC_OCEvent o_1_S hoQ_1)
  have GX_Q : Hid (w.heap.size ≤ gQ_1) := Lib.hid (by have h1 := hgQ_1; (try simp at h1); have h2 := In.size i_0; omega)
  have o_1_Q : OCEvent w_1 gQ_1 (m) cQ_1 ys := hoQ_1
  clear hoQ_1 hgQ_1
  have i_1 : In w.heap.size w w_1 := In.step (by (repeat (first | exact In.refl _ | assumption | apply In.alloc | apply In.drewN | apply In.drew | (refine In.step ?_ (by assumption))))) hb_1
  have k_1_A : Blk w_1 b_A 45 #[.slice (some ⟨g, 0, none⟩) n c, .int .i64 a0, .int .i64 a1, .int .i64 a2, .int .i64 a3, .int .i64 a4, .slice (some ⟨h, 0, none⟩) m d, .int .i64 a5, .int .i64 a6, .int .i64 a7, .int .i64 a8, .int .i64 a9, .int .i64 a10, .int .i64 a11] := Blk.step (by (with_reducible (repeat (first | assumption | exact Blk.new' (by simp) | apply Blk.drewN | apply Blk.drew | apply Blk.alloc | (refine Blk.far ?_ (by (try simp) <;> omega) _))))) hb_1
  obtain ⟨c_1_A_0, c_1_A_1, c_1_A_2, c_1_A_3, c_1_A_4, c_1_A_5, c_1_A_6, c_1_A_7, c_1_A_8, c_1_A_9, c_1_A_10, c_1_A_11, c_1_A_12, c_1_A_13⟩ := cells14 k_1_A
  have l_1_A := k_1_A.lt
  have k_1_E : Blk w_1 b_E 78 #[.int .i64 k, .int .i64 l] := Blk.step (by (with_reducible (repeat (first | assumption | exact Blk.new' (by simp) | apply Blk.drewN | apply Blk.drew | apply Blk.alloc | (refine Blk.far ?_ (by (try simp) <;> omega) _))))) hb_1
  obtain ⟨c_1_E_0, c_1_E_1⟩ := cells2 k_1_E
  have l_1_E := k_1_E.lt
  have k_1_R : Blk w_1 b_R 45 #[.slice none 0 0, .int .i64 0, .int .i64 0, .int .i64 0, .int .i64 0, .int .i64 0, .slice none 0 0, .int .i64 0, .int .i64 0, .int .i64 0, .int .i64 0, .int .i64 0, .int .i64 0, .int .i64 0] := Blk.step (by (with_reducible (repeat (first | assumption | exact Blk.new' (by simp) | apply Blk.drewN | apply Blk.drew | apply Blk.alloc | (refine Blk.far ?_ (by (try simp) <;> omega) _))))) hb_1
  obtain ⟨c_1_R_0, c_1_R_1, c_1_R_2, c_1_R_3, c_1_R_4, c_1_R_5, c_1_R_6, c_1_R_7, c_1_R_8, c_1_R_9, c_1_R_10, c_1_R_11, c_1_R_12, c_1_R_13⟩ := cells14 k_1_R
  have l_1_R := k_1_R.lt
  have z_1_R := k_1_R.frozen
  clear i_0 k_0_A c_0_A_0 c_0_A_1 c_0_A_2 c_0_A_3 c_0_A_4 c_0_A_5 c_0_A_6 c_0_A_7 c_0_A_8 c_0_A_9 c_0_A_10 c_0_A_11 c_0_A_12 c_0_A_13 l_0_A k_0_E c_0_E_0 c_0_E_1 l_0_E k_0_R c_0_R_0 c_0_R_1 c_0_R_2 c_0_R_3 c_0_R_4 c_0_R_5 c_0_R_6 c_0_R_7 c_0_R_8 c_0_R_9 c_0_R_10 c_0_R_11 c_0_R_12 c_0_R_13 l_0_R z_0_R hb_0
  simp only []
  iterate 10 go_step
  obtain ⟨b_O, hbx_O⟩ : ∃ b, b = w_1.heap.size := ⟨_, rfl⟩
  rw [← hbx_O]
  have hwb_O : w.heap.size ≤ b_O := by have h := In.size i_1; omega
  have NB_A_O : Hid (b_A ≠ b_O) := Lib.hid (by have h := k_1_A.lt; omega)
  have NB_E_O : Hid (b_E ≠ b_O) := Lib.hid (by have h := k_1_E.lt; omega)
  have NB_R_O : Hid (b_R ≠ b_O) := Lib.hid (by have h := k_1_R.lt; omega)
  have hb_2 : Below w_1.heap.size w_1 (w_1.alloc (.cells #[.slice (some ⟨gS_1, 0, none⟩) n cS_1, .int .i64 a0, .int .i64 a1, .int .i64 a2, .int .i64 a3, .int .i64 a4, .slice (some ⟨gQ_1, 0, none⟩) m cQ_1, .int .i64 a5, .int .i64 a6, .int .i64 a7, .int .i64 a8, .int .i64 a9, .int .i64 a10, .int .i64 a11] 45)) := (Below.refl _ _).alloc (Nat.le_refl _) _
  have kk_2 : Blk (w_1.alloc (.cells #[.slice (some ⟨gS_1, 0, none⟩) n cS_1, .int .i64 a0, .int .i64 a1, .int .i64 a2, .int .i64 a3, .int .i64 a4, .slice (some ⟨gQ_1, 0, none⟩) m cQ_1, .int .i64 a5, .int .i64 a6, .int .i64 a7, .int .i64 a8, .int .i64 a9, .int .i64 a10, .int .i64 a11] 45)) b_O 45 #[.slice (some ⟨gS_1, 0, none⟩) n cS_1, .int .i64 a0, .int .i64 a1, .int .i64 a2, .int .i64 a3, .int .i64 a4, .slice (some ⟨gQ_1, 0, none⟩) m cQ_1, .int .i64 a5, .int .i64 a6, .int .i64 a7, .int .i64 a8, .int .i64 a9, .int .i64 a10, .int .i64 a11] := Blk.new' hbx_O
  clear hbx_O
  generalize (w_1.alloc (.cells #[.slice (some ⟨gS_1, 0, none⟩) n cS_1, .int .i64 a0, .int .i64 a1, .int .i64 a2, .int .i64 a3, .int .i64 a4, .slice (some ⟨gQ_1, 0, none⟩) m cQ_1, .int .i64 a5, .int .i64 a6, .int .i64 a7, .int .i64 a8, .int .i64 a9, .int .i64 a10, .int .i64 a11] 45)) = w_2 at *
  have i_2 : In w.heap.size w w_2 := In.step (by (repeat (first | exact In.refl _ | assumption | apply In.alloc | apply In.drewN | apply In.drew | (refine In.step ?_ (by assumption))))) hb_2
  have k_2_A : Blk w_2 b_A 45 #[.slice (some ⟨g, 0, none⟩) n c, .int .i64 a0, .int .i64 a1, .int .i64 a2, .int .i64 a3, .int .i64 a4, .slice (some ⟨h, 0, none⟩) m d, .int .i64 a5, .int .i64 a6, .int .i64 a7, .int .i64 a8, .int .i64 a9, .int .i64 a10, .int .i64 a11] := Blk.step (by (with_reducible (repeat (first | assumption | exact Blk.new' (by simp) | apply Blk.drewN | apply Blk.drew | apply Blk.alloc | (refine Blk.far ?_ (by (try simp) <;> omega) _))))) hb_2
  obtain ⟨c_2_A_0, c_2_A_1, c_2_A_2, c_2_A_3, c_2_A_4, c_2_A_5, c_2_A_6, c_2_A_7, c_2_A_8, c_2_A_9, c_2_A_10, c_2_A_11, c_2_A_12, c_2_A_13⟩ := cells14 k_2_A
  have l_2_A := k_2_A.lt
  have k_2_E : Blk w_2 b_E 78 #[.int .i64 k, .int .i64 l] := Blk.step (by (with_reducible (repeat (first | assumption | exact Blk.new' (by simp) | apply Blk.drewN | apply Blk.drew | apply Blk.alloc | (refine Blk.far ?_ (by (try simp) <;> omega) _))))) hb_2
  obtain ⟨c_2_E_0, c_2_E_1⟩ := cells2 k_2_E
  have l_2_E := k_2_E.lt
  have k_2_R : Blk w_2 b_R 45 #[.slice none 0 0, .int .i64 0, .int .i64 0, .int .i64 0, .int .i64 0, .int .i64 0, .slice none 0 0, .int .i64 0, .int .i64 0, .int .i64 0, .int .i64 0, .int .i64 0, .int .i64 0, .int .i64 0] := Blk.step (by (with_reducible (repeat (first | assumption | exact Blk.new' (by simp) | apply Blk.drewN | apply Blk.drew | apply Blk.alloc | (refine Blk.far ?_ (by (try simp) <;> omega) _))))) hb_2
  obtain ⟨c_2_R_0, c_2_R_1, c_2_R_2, c_2_R_3, c_2_R_4, c_2_R_5, c_2_R_6, c_2_R_7, c_2_R_8, c_2_R_9, c_2_R_10, c_2_R_11, c_2_R_12, c_2_R_13⟩ := cells14 k_2_R
  have l_2_R := k_2_R.lt
  have z_2_R := k_2_R.frozen
  have k_2_O : Blk w_2 b_O 45 #[.slice (some ⟨gS_1, 0, none⟩) n cS_1, .int .i64 a0, .int .i64 a1, .int .i64 a2, .int .i64 a3, .int .i64 a4, .slice (some ⟨gQ_1, 0, none⟩) m cQ_1, .int .i64 a5, .int .i64 a6, .int .i64 a7, .int .i64 a8, .int .i64 a9, .int .i64 a10, .int .i64 a11] := kk_2
  obtain ⟨c_2_O_0, c_2_O_1, c_2_O_2, c_2_O_3, c_2_O_4, c_2_O_5, c_2_O_6, c_2_O_7, c_2_O_8, c_2_O_9, c_2_O_10, c_2_O_11, c_2_O_12, c_2_O_13⟩ := cells14 k_2_O
  have l_2_O := k_2_O.lt
  have z_2_O := k_2_O.frozen
  have o_2_S : OwnC w_2 gS_1 (n) cS_1 xs := OwnC.step (by with_reducible (repeat (first | assumption | apply OwnC.drewN | apply OwnC.drew | apply OwnC.alloc))) hb_2
  have o_2_Q : OCEvent w_2 gQ_1 (m) cQ_1 ys := OCEvent.step (by with_reducible (repeat (first | assumption | apply OCEvent.drewN | apply OCEvent.drew | apply OCEvent.alloc))) hb_2
  clear i_1 k_1_A c_1_A_0 c_1_A_1 c_1_A_2 c_1_A_3 c_1_A_4 c_1_A_5 c_1_A_6 c_1_A_7 c_1_A_8 c_1_A_9 c_1_A_10 c_1_A_11 c_1_A_12 c_1_A_13 l_1_A k_1_E c_1_E_0 c_1_E_1 l_1_E k_1_R c_1_R_0 c_1_R_1 c_1_R_2 c_1_R_3 c_1_R_4 c_1_R_5 c_1_R_6 c_1_R_7 c_1_R_8 c_1_R_9 c_1_R_10 c_1_R_11 c_1_R_12 c_1_R_13 l_1_R z_1_R o_1_S o_1_Q hb_1
  clear kk_2
  go_wp2_with fail
  refine (sBakeryOk g n c xs h m d ys a0 a1 a2 a3 a4 a5 a6 a7 a8 a9 a10 a11 _ hn hm (HX.out.in_ (by (repeat (first | exact In.refl _ | assumption | apply In.alloc | apply In.drewN | apply In.drew | (refine In.step ?_ (by assumption)))))) (HY.out.in_ (by (repeat (first | exact In.refl _ | assumption | apply In.alloc | apply In.drewN | apply In.drew | (refine In.step ?_ (by assumption))))))).mono ?_
  rintro _ w_3 ⟨rfl, hb_3⟩
  have i_3 : In w.heap.size w w_3 := In.step (by (repeat (first | exact In.refl _ | assumption | apply In.alloc | apply In.drewN | apply In.drew | (refine In.step ?_ (by assumption))))) hb_3
  have k_3_A : Blk w_3 b_A 45 #[.slice (some ⟨g, 0, none⟩) n c, .int .i64 a0, .int .i64 a1, .int .i64 a2, .int .i64 a3, .int .i64 a4, .slice (some ⟨h, 0, none⟩) m d, .int .i64 a5, .int .i64 a6, .int .i64 a7, .int .i64 a8, .int .i64 a9, .int .i64 a10, .int .i64 a11] := Blk.step (by (with_reducible (repeat (first | assumption | exact Blk.new' (by simp) | apply Blk.drewN | apply Blk.drew | apply Blk.alloc | (refine Blk.far ?_ (by (try simp) <;> omega) _))))) hb_3
  obtain ⟨c_3_A_0, c_3_A_1, c_3_A_2, c_3_A_3, c_3_A_4, c_3_A_5, c_3_A_6, c_3_A_7, c_3_A_8, c_3_A_9, c_3_A_10, c_3_A_11, c_3_A_12, c_3_A_13⟩ := cells14 k_3_A
  have l_3_A := k_3_A.lt
  have k_3_E : Blk w_3 b_E 78 #[.int .i64 k, .int .i64 l] := Blk.step (by (with_reducible (repeat (first | assumption | exact Blk.new' (by simp) | apply Blk.drewN | apply Blk.drew | apply Blk.alloc | (refine Blk.far ?_ (by (try simp) <;> omega) _))))) hb_3
  obtain ⟨c_3_E_0, c_3_E_1⟩ := cells2 k_3_E
  have l_3_E := k_3_E.lt
  have k_3_R : Blk w_3 b_R 45 #[.slice none 0 0, .int .i64 0, .int .i64 0, .int .i64 0, .int .i64 0, .int .i64 0, .slice none 0 0, .int .i64 0, .int .i64 0, .int .i64 0, .int .i64 0, .int .i64 0, .int .i64 0, .int .i64 0] := Blk.step (by (with_reducible (repeat (first | assumption | exact Blk.new' (by simp) | apply Blk.drewN | apply Blk.drew | apply Blk.alloc | (refine Blk.far ?_ (by (try simp) <;> omega) _))))) hb_3
  obtain ⟨c_3_R_0, c_3_R_1, c_3_R_2, c_3_R_3, c_3_R_4, c_3_R_5, c_3_R_6, c_3_R_7, c_3_R_8, c_3_R_9, c_3_R_10, c_3_R_11, c_3_R_12, c_3_R_13⟩ := cells14 k_3_R
  have l_3_R := k_3_R.lt
  have z_3_R := k_3_R.frozen
  have k_3_O : Blk w_3 b_O 45 #[.slice (some ⟨gS_1, 0, none⟩) n cS_1, .int .i64 a0, .int .i64 a1, .int .i64 a2, .int .i64 a3, .int .i64 a4, .slice (some ⟨gQ_1, 0, none⟩) m cQ_1, .int .i64 a5, .int .i64 a6, .int .i64 a7, .int .i64 a8, .int .i64 a9, .int .i64 a10, .int .i64 a11] := Blk.step (by (with_reducible (repeat (first | assumption | exact Blk.new' (by simp) | apply Blk.drewN | apply Blk.drew | apply Blk.alloc | (refine Blk.far ?_ (by (try simp) <;> omega) _))))) hb_3
  obtain ⟨c_3_O_0, c_3_O_1, c_3_O_2, c_3_O_3, c_3_O_4, c_3_O_5, c_3_O_6, c_3_O_7, c_3_O_8, c_3_O_9, c_3_O_10, c_3_O_11, c_3_O_12, c_3_O_13⟩ := cells14 k_3_O
  have l_3_O := k_3_O.lt
  have z_3_O := k_3_O.frozen
  have o_3_S : OwnC w_3 gS_1 (n) cS_1 xs := OwnC.step (by with_reducible (repeat (first | assumption | apply OwnC.drewN | apply OwnC.drew | apply OwnC.alloc))) hb_3
  have o_3_Q : OCEvent w_3 gQ_1 (m) cQ_1 ys := OCEvent.step (by with_reducible (repeat (first | assumption | apply OCEvent.drewN | apply OCEvent.drew | apply OCEvent.alloc))) hb_3
  clear i_2 k_2_A c_2_A_0 c_2_A_1 c_2_A_2 c_2_A_3 c_2_A_4 c_2_A_5 c_2_A_6 c_2_A_7 c_2_A_8 c_2_A_9 c_2_A_10 c_2_A_11 c_2_A_12 c_2_A_13 l_2_A k_2_E c_2_E_0 c_2_E_1 l_2_E k_2_R c_2_R_0 c_2_R_1 c_2_R_2 c_2_R_3 c_2_R_4 c_2_R_5 c_2_R_6 c_2_R_7 c_2_R_8 c_2_R_9 c_2_R_10 c_2_R_11 c_2_R_12 c_2_R_13 l_2_R z_2_R k_2_O c_2_O_0 c_2_O_1 c_2_O_2 c_2_O_3 c_2_O_4 c_2_O_5 c_2_O_6 c_2_O_7 c_2_O_8 c_2_O_9 c_2_O_10 c_2_O_11 c_2_O_12 c_2_O_13 l_2_O z_2_O o_2_S o_2_Q hb_2
  cases h1 : yOk n xs m ys a0 a1 a2 a3 a4 a5 a6 a7 a8 a9 a10 a11
  · have HV : Hid (yeB n xs m ys a0 a1 a2 a3 a4 a5 a6 a7 a8 a9 a10 a11 k l dm = false) := Lib.hid (by simp [yeB, h1])
    have hn1_R_A : b_A ≠ b_R := by first | exact NB_A_R.out | exact NB_R_A.out.symm
    have hn2_R_A : b_R ≠ b_A := hn1_R_A.symm
    have hn1_R_E : b_E ≠ b_R := by first | exact NB_E_R.out | exact NB_R_E.out.symm
    have hn2_R_E : b_R ≠ b_E := hn1_R_E.symm
    have hn1_R_O : b_O ≠ b_R := by first | exact NB_O_R.out | exact NB_R_O.out.symm
    have hn2_R_O : b_R ≠ b_O := hn1_R_O.symm
    have kk : Blk ((((((((((((((w_3.setCell ⟨b_R, 0, none⟩ (.slice (some ⟨gS_1, 0, none⟩) n cS_1)).setCell ⟨b_R, 1, none⟩ (.int .i64 a0)).setCell ⟨b_R, 2, none⟩ (.int .i64 a1)).setCell ⟨b_R, 3, none⟩ (.int .i64 a2)).setCell ⟨b_R, 4, none⟩ (.int .i64 a3)).setCell ⟨b_R, 5, none⟩ (.int .i64 a4)).setCell ⟨b_R, 6, none⟩ (.slice (some ⟨gQ_1, 0, none⟩) m cQ_1)).setCell ⟨b_R, 7, none⟩ (.int .i64 a5)).setCell ⟨b_R, 8, none⟩ (.int .i64 a6)).setCell ⟨b_R, 9, none⟩ (.int .i64 a7)).setCell ⟨b_R, 10, none⟩ (.int .i64 a8)).setCell ⟨b_R, 11, none⟩ (.int .i64 a9)).setCell ⟨b_R, 12, none⟩ (.int .i64 a10)).setCell ⟨b_R, 13, none⟩ (.int .i64 a11)) b_R 45 #[.slice (some ⟨gS_1, 0, none⟩) n cS_1, .int .i64 a0, .int .i64 a1, .int .i64 a2, .int .i64 a3, .int .i64 a4, .slice (some ⟨gQ_1, 0, none⟩) m cQ_1, .int .i64 a5, .int .i64 a6, .int .i64 a7, .int .i64 a8, .int .i64 a9, .int .i64 a10, .int .i64 a11] := blks14 k_3_R
    have i9 : In w.heap.size w ((((((((((((((w_3.setCell ⟨b_R, 0, none⟩ (.slice (some ⟨gS_1, 0, none⟩) n cS_1)).setCell ⟨b_R, 1, none⟩ (.int .i64 a0)).setCell ⟨b_R, 2, none⟩ (.int .i64 a1)).setCell ⟨b_R, 3, none⟩ (.int .i64 a2)).setCell ⟨b_R, 4, none⟩ (.int .i64 a3)).setCell ⟨b_R, 5, none⟩ (.int .i64 a4)).setCell ⟨b_R, 6, none⟩ (.slice (some ⟨gQ_1, 0, none⟩) m cQ_1)).setCell ⟨b_R, 7, none⟩ (.int .i64 a5)).setCell ⟨b_R, 8, none⟩ (.int .i64 a6)).setCell ⟨b_R, 9, none⟩ (.int .i64 a7)).setCell ⟨b_R, 10, none⟩ (.int .i64 a8)).setCell ⟨b_R, 11, none⟩ (.int .i64 a9)).setCell ⟨b_R, 12, none⟩ (.int .i64 a10)).setCell ⟨b_R, 13, none⟩ (.int .i64 a11)) := ins14 i_3 hwb_R
    have OS : Hid (OwnC ((((((((((((((w_3.setCell ⟨b_R, 0, none⟩ (.slice (some ⟨gS_1, 0, none⟩) n cS_1)).setCell ⟨b_R, 1, none⟩ (.int .i64 a0)).setCell ⟨b_R, 2, none⟩ (.int .i64 a1)).setCell ⟨b_R, 3, none⟩ (.int .i64 a2)).setCell ⟨b_R, 4, none⟩ (.int .i64 a3)).setCell ⟨b_R, 5, none⟩ (.int .i64 a4)).setCell ⟨b_R, 6, none⟩ (.slice (some ⟨gQ_1, 0, none⟩) m cQ_1)).setCell ⟨b_R, 7, none⟩ (.int .i64 a5)).setCell ⟨b_R, 8, none⟩ (.int .i64 a6)).setCell ⟨b_R, 9, none⟩ (.int .i64 a7)).setCell ⟨b_R, 10, none⟩ (.int .i64 a8)).setCell ⟨b_R, 11, none⟩ (.int .i64 a9)).setCell ⟨b_R, 12, none⟩ (.int .i64 a10)).setCell ⟨b_R, 13, none⟩ (.int .i64 a11)) gS_1 (n) cS_1 xs) := Lib.hid (OwnC.far o_3_S k_3_R (by decide) only14)
    have OQ : Hid (OCEvent ((((((((((((((w_3.setCell ⟨b_R, 0, none⟩ (.slice (some ⟨gS_1, 0, none⟩) n cS_1)).setCell ⟨b_R, 1, none⟩ (.int .i64 a0)).setCell ⟨b_R, 2, none⟩ (.int .i64 a1)).setCell ⟨b_R, 3, none⟩ (.int .i64 a2)).setCell ⟨b_R, 4, none⟩ (.int .i64 a3)).setCell ⟨b_R, 5, none⟩ (.int .i64 a4)).setCell ⟨b_R, 6, none⟩ (.slice (some ⟨gQ_1, 0, none⟩) m cQ_1)).setCell ⟨b_R, 7, none⟩ (.int .i64 a5)).setCell ⟨b_R, 8, none⟩ (.int .i64 a6)).setCell ⟨b_R, 9, none⟩ (.int .i64 a7)).setCell ⟨b_R, 10, none⟩ (.int .i64 a8)).setCell ⟨b_R, 11, none⟩ (.int .i64 a9)).setCell ⟨b_R, 12, none⟩ (.int .i64 a10)).setCell ⟨b_R, 13, none⟩ (.int .i64 a11)) gQ_1 (m) cQ_1 ys) := Lib.hid (OCEvent.far o_3_Q k_3_R (by decide) only14)
    have HK0 : Hid ((_ : World).cell? ⟨b_R, 0, none⟩ = some (.slice (some ⟨gS_1, 0, none⟩) n cS_1)) := Lib.hid (kk.cell 0)
    have HK1 : Hid ((_ : World).cell? ⟨b_R, 1, none⟩ = some (.int .i64 a0)) := Lib.hid (kk.cell 1)
    have HK2 : Hid ((_ : World).cell? ⟨b_R, 2, none⟩ = some (.int .i64 a1)) := Lib.hid (kk.cell 2)
    have HK3 : Hid ((_ : World).cell? ⟨b_R, 3, none⟩ = some (.int .i64 a2)) := Lib.hid (kk.cell 3)
    have HK4 : Hid ((_ : World).cell? ⟨b_R, 4, none⟩ = some (.int .i64 a3)) := Lib.hid (kk.cell 4)
    have HK5 : Hid ((_ : World).cell? ⟨b_R, 5, none⟩ = some (.int .i64 a4)) := Lib.hid (kk.cell 5)
    have HK6 : Hid ((_ : World).cell? ⟨b_R, 6, none⟩ = some (.slice (some ⟨gQ_1, 0, none⟩) m cQ_1)) := Lib.hid (kk.cell 6)
    have HK7 : Hid ((_ : World).cell? ⟨b_R, 7, none⟩ = some (.int .i64 a5)) := Lib.hid (kk.cell 7)
    have HK8 : Hid ((_ : World).cell? ⟨b_R, 8, none⟩ = some (.int .i64 a6)) := Lib.hid (kk.cell 8)
    have HK9 : Hid ((_ : World).cell? ⟨b_R, 9, none⟩ = some (.int .i64 a7)) := Lib.hid (kk.cell 9)
    have HK10 : Hid ((_ : World).cell? ⟨b_R, 10, none⟩ = some (.int .i64 a8)) := Lib.hid (kk.cell 10)
    have HK11 : Hid ((_ : World).cell? ⟨b_R, 11, none⟩ = some (.int .i64 a9)) := Lib.hid (kk.cell 11)
    have HK12 : Hid ((_ : World).cell? ⟨b_R, 12, none⟩ = some (.int .i64 a10)) := Lib.hid (kk.cell 12)
    have HK13 : Hid ((_ : World).cell? ⟨b_R, 13, none⟩ = some (.int .i64 a11)) := Lib.hid (kk.cell 13)
    clear kk
    clear o_3_S o_3_Q
    go_wp2
    have hk0 := HK0.out
    have hk1 := HK1.out
    have hk2 := HK2.out
    have hk3 := HK3.out
    have hk4 := HK4.out
    have hk5 := HK5.out
    have hk6 := HK6.out
    have hk7 := HK7.out
    have hk8 := HK8.out
    have hk9 := HK9.out
    have hk10 := HK10.out
    have hk11 := HK11.out
    have hk12 := HK12.out
    have hk13 := HK13.out
    exact bodyPost_ret (v := .tuple #[.agg #[.slice (some ⟨gS_1, 0, none⟩) n cS_1, .int .i64 a0, .int .i64 a1, .int .i64 a2, .int .i64 a3, .int .i64 a4, .slice (some ⟨gQ_1, 0, none⟩) m cQ_1, .int .i64 a5, .int .i64 a6, .int .i64 a7, .int .i64 a8, .int .i64 a9, .int .i64 a10, .int .i64 a11], .bool false]) (by simp [results, Try.results38, go_sem, hk0, hk1, hk2, hk3, hk4, hk5, hk6, hk7, hk8, hk9, hk10, hk11, hk12, hk13]) rfl (rowYV_of (by simp [yeL, HV.out]) (by simp [yeS, HV.out]) (by simp [yeS, HV.out]) (by simp [yeS, HV.out]) (by simp [yeS, HV.out]) (by simp [yeS, HV.out]) (by simp [yeS, HV.out]) (by simp [yeM, HV.out]) (by rw [HV.out]) OS.out GX_S.out OQ.out GX_Q.out i9.below)
  obtain ⟨hm40, hM0, hM1⟩ := yOk_m h1
  have HYO := Lib.hid (fun (he : enB m ys a5 a6 a7 a8 a9 a10 k l = true) => yOk_en (dm := dm) hlen h1 he)
  have H1 := Lib.hid h1
  clear h1 hm40
  obtain ⟨zs, hzs⟩ : ∃ x, enL m ys a5 a6 a7 a8 a9 a10 k l = x := ⟨_, rfl⟩
  have hzl : zs.length ≤ 1048576 := by rw [← hzs]; exact enL_le hlen (by omega)
  obtain ⟨s9, hs9⟩ : ∃ x, enS m ys a5 a6 a7 a8 a9 a10 k l = x := ⟨_, rfl⟩
  obtain ⟨s0, s1, s2, s3, s4, s5⟩ := s9
  obtain ⟨fl, hfl⟩ : ∃ x, enB m ys a5 a6 a7 a8 a9 a10 k l = x := ⟨_, rfl⟩
  have HEN : Hid (∀ W : World, ReadsEvent W (some ⟨h, 0, none⟩) m ys → Calls Try.prog 66 #[.agg #[.slice (some ⟨h, 0, none⟩) m d, .int .i64 a5, .int .i64 a6, .int .i64 a7, .int .i64 a8, .int .i64 a9, .int .i64 a10], .agg #[.int .i64 k, .int .i64 l]] W (fun e w' => ∃ g c, e = .returned (.tuple #[.agg #[.slice (some ⟨g, 0, none⟩) zs.length c, .int .i64 s0, .int .i64 s1, .int .i64 s2, .int .i64 s3, .int .i64 s4, .int .i64 s5], .bool fl]) ∧ OCEvent w' g zs.length c zs ∧ W.heap.size ≤ g ∧ Below W.heap.size W w')) := Lib.hid (fun W hr => by
    have h9 := sEnter h m d ys a5 a6 a7 a8 a9 a10 k l W (by omega) hr
    rw [hzs, hs9, hfl] at h9
    exact h9)
  have HZS := Lib.hid hzs
  have HS9 := Lib.hid hs9
  have HFL := Lib.hid hfl
  rw [hzs, hs9, hfl] at HYO
  clear hzs hs9 hfl
  have hwr : wrap64 (a11 + dm) = a11 + dm := w64 (by omega)
  go_wp2_with fail
  refine (HEN.out _ (HY.out.in_ (by (repeat (first | exact In.refl _ | assumption | apply In.alloc | apply In.drewN | apply In.drew | (refine In.step ?_ (by assumption))))))).mono ?_
  rintro _ w_4 ⟨gN_4, cN_4, rfl, hoN_4, hgN_4, hb_4⟩
  have NE_S_N : Hid (gS_1 ≠ gN_4) := Lib.hid (by have h1 := hgN_4; (try simp at h1); have h2 := OwnC.lt o_3_S; omega)
  have NE_Q_N : Hid (gQ_1 ≠ gN_4) := Lib.hid (by have h1 := hgN_4; (try simp at h1); have h2 := OCEvent.lt o_3_Q; omega)
  have GX_N : Hid (w.heap.size ≤ gN_4) := Lib.hid (by have h1 := hgN_4; (try simp at h1); have h2 := In.size i_3; omega)
  have o_4_N : OCEvent w_4 gN_4 (zs.length) cN_4 zs := hoN_4
  clear hoN_4 hgN_4
  have i_4 : In w.heap.size w w_4 := In.step (by (repeat (first | exact In.refl _ | assumption | apply In.alloc | apply In.drewN | apply In.drew | (refine In.step ?_ (by assumption))))) hb_4
  have k_4_A : Blk w_4 b_A 45 #[.slice (some ⟨g, 0, none⟩) n c, .int .i64 a0, .int .i64 a1, .int .i64 a2, .int .i64 a3, .int .i64 a4, .slice (some ⟨h, 0, none⟩) m d, .int .i64 a5, .int .i64 a6, .int .i64 a7, .int .i64 a8, .int .i64 a9, .int .i64 a10, .int .i64 a11] := Blk.step (by (with_reducible (repeat (first | assumption | exact Blk.new' (by simp) | apply Blk.drewN | apply Blk.drew | apply Blk.alloc | (refine Blk.far ?_ (by (try simp) <;> omega) _))))) hb_4
  obtain ⟨c_4_A_0, c_4_A_1, c_4_A_2, c_4_A_3, c_4_A_4, c_4_A_5, c_4_A_6, c_4_A_7, c_4_A_8, c_4_A_9, c_4_A_10, c_4_A_11, c_4_A_12, c_4_A_13⟩ := cells14 k_4_A
  have l_4_A := k_4_A.lt
  have k_4_E : Blk w_4 b_E 78 #[.int .i64 k, .int .i64 l] := Blk.step (by (with_reducible (repeat (first | assumption | exact Blk.new' (by simp) | apply Blk.drewN | apply Blk.drew | apply Blk.alloc | (refine Blk.far ?_ (by (try simp) <;> omega) _))))) hb_4
  obtain ⟨c_4_E_0, c_4_E_1⟩ := cells2 k_4_E
  have l_4_E := k_4_E.lt
  have k_4_R : Blk w_4 b_R 45 #[.slice none 0 0, .int .i64 0, .int .i64 0, .int .i64 0, .int .i64 0, .int .i64 0, .slice none 0 0, .int .i64 0, .int .i64 0, .int .i64 0, .int .i64 0, .int .i64 0, .int .i64 0, .int .i64 0] := Blk.step (by (with_reducible (repeat (first | assumption | exact Blk.new' (by simp) | apply Blk.drewN | apply Blk.drew | apply Blk.alloc | (refine Blk.far ?_ (by (try simp) <;> omega) _))))) hb_4
  obtain ⟨c_4_R_0, c_4_R_1, c_4_R_2, c_4_R_3, c_4_R_4, c_4_R_5, c_4_R_6, c_4_R_7, c_4_R_8, c_4_R_9, c_4_R_10, c_4_R_11, c_4_R_12, c_4_R_13⟩ := cells14 k_4_R
  have l_4_R := k_4_R.lt
  have z_4_R := k_4_R.frozen
  have k_4_O : Blk w_4 b_O 45 #[.slice (some ⟨gS_1, 0, none⟩) n cS_1, .int .i64 a0, .int .i64 a1, .int .i64 a2, .int .i64 a3, .int .i64 a4, .slice (some ⟨gQ_1, 0, none⟩) m cQ_1, .int .i64 a5, .int .i64 a6, .int .i64 a7, .int .i64 a8, .int .i64 a9, .int .i64 a10, .int .i64 a11] := Blk.step (by (with_reducible (repeat (first | assumption | exact Blk.new' (by simp) | apply Blk.drewN | apply Blk.drew | apply Blk.alloc | (refine Blk.far ?_ (by (try simp) <;> omega) _))))) hb_4
  obtain ⟨c_4_O_0, c_4_O_1, c_4_O_2, c_4_O_3, c_4_O_4, c_4_O_5, c_4_O_6, c_4_O_7, c_4_O_8, c_4_O_9, c_4_O_10, c_4_O_11, c_4_O_12, c_4_O_13⟩ := cells14 k_4_O
  have l_4_O := k_4_O.lt
  have z_4_O := k_4_O.frozen
  have o_4_S : OwnC w_4 gS_1 (n) cS_1 xs := OwnC.step (by with_reducible (repeat (first | assumption | apply OwnC.drewN | apply OwnC.drew | apply OwnC.alloc))) hb_4
  have o_4_Q : OCEvent w_4 gQ_1 (m) cQ_1 ys := OCEvent.step (by with_reducible (repeat (first | assumption | apply OCEvent.drewN | apply OCEvent.drew | apply OCEvent.alloc))) hb_4
  clear i_3 k_3_A c_3_A_0 c_3_A_1 c_3_A_2 c_3_A_3 c_3_A_4 c_3_A_5 c_3_A_6 c_3_A_7 c_3_A_8 c_3_A_9 c_3_A_10 c_3_A_11 c_3_A_12 c_3_A_13 l_3_A k_3_E c_3_E_0 c_3_E_1 l_3_E k_3_R c_3_R_0 c_3_R_1 c_3_R_2 c_3_R_3 c_3_R_4 c_3_R_5 c_3_R_6 c_3_R_7 c_3_R_8 c_3_R_9 c_3_R_10 c_3_R_11 c_3_R_12 c_3_R_13 l_3_R z_3_R k_3_O c_3_O_0 c_3_O_1 c_3_O_2 c_3_O_3 c_3_O_4 c_3_O_5 c_3_O_6 c_3_O_7 c_3_O_8 c_3_O_9 c_3_O_10 c_3_O_11 c_3_O_12 c_3_O_13 l_3_O z_3_O o_3_S o_3_Q hb_3
  simp only []
  iterate 22 go_step
  obtain ⟨b_N, hbx_N⟩ : ∃ b, b = w_4.heap.size := ⟨_, rfl⟩
  rw [← hbx_N]
  have hwb_N : w.heap.size ≤ b_N := by have h := In.size i_4; omega
  have NB_A_N : Hid (b_A ≠ b_N) := Lib.hid (by have h := k_4_A.lt; omega)
  have NB_E_N : Hid (b_E ≠ b_N) := Lib.hid (by have h := k_4_E.lt; omega)
  have NB_R_N : Hid (b_R ≠ b_N) := Lib.hid (by have h := k_4_R.lt; omega)
  have NB_O_N : Hid (b_O ≠ b_N) := Lib.hid (by have h := k_4_O.lt; omega)
  have hb_5 : Below w_4.heap.size w_4 (w_4.alloc (.cells #[.slice (some ⟨gN_4, 0, none⟩) zs.length cN_4, .int .i64 s0, .int .i64 s1, .int .i64 s2, .int .i64 s3, .int .i64 s4, .int .i64 s5] 43)) := (Below.refl _ _).alloc (Nat.le_refl _) _
  have kk_5 : Blk (w_4.alloc (.cells #[.slice (some ⟨gN_4, 0, none⟩) zs.length cN_4, .int .i64 s0, .int .i64 s1, .int .i64 s2, .int .i64 s3, .int .i64 s4, .int .i64 s5] 43)) b_N 43 #[.slice (some ⟨gN_4, 0, none⟩) zs.length cN_4, .int .i64 s0, .int .i64 s1, .int .i64 s2, .int .i64 s3, .int .i64 s4, .int .i64 s5] := Blk.new' hbx_N
  clear hbx_N
  generalize (w_4.alloc (.cells #[.slice (some ⟨gN_4, 0, none⟩) zs.length cN_4, .int .i64 s0, .int .i64 s1, .int .i64 s2, .int .i64 s3, .int .i64 s4, .int .i64 s5] 43)) = w_5 at *
  have i_5 : In w.heap.size w w_5 := In.step (by (repeat (first | exact In.refl _ | assumption | apply In.alloc | apply In.drewN | apply In.drew | (refine In.step ?_ (by assumption))))) hb_5
  have k_5_A : Blk w_5 b_A 45 #[.slice (some ⟨g, 0, none⟩) n c, .int .i64 a0, .int .i64 a1, .int .i64 a2, .int .i64 a3, .int .i64 a4, .slice (some ⟨h, 0, none⟩) m d, .int .i64 a5, .int .i64 a6, .int .i64 a7, .int .i64 a8, .int .i64 a9, .int .i64 a10, .int .i64 a11] := Blk.step (by (with_reducible (repeat (first | assumption | exact Blk.new' (by simp) | apply Blk.drewN | apply Blk.drew | apply Blk.alloc | (refine Blk.far ?_ (by (try simp) <;> omega) _))))) hb_5
  obtain ⟨c_5_A_0, c_5_A_1, c_5_A_2, c_5_A_3, c_5_A_4, c_5_A_5, c_5_A_6, c_5_A_7, c_5_A_8, c_5_A_9, c_5_A_10, c_5_A_11, c_5_A_12, c_5_A_13⟩ := cells14 k_5_A
  have l_5_A := k_5_A.lt
  have k_5_E : Blk w_5 b_E 78 #[.int .i64 k, .int .i64 l] := Blk.step (by (with_reducible (repeat (first | assumption | exact Blk.new' (by simp) | apply Blk.drewN | apply Blk.drew | apply Blk.alloc | (refine Blk.far ?_ (by (try simp) <;> omega) _))))) hb_5
  obtain ⟨c_5_E_0, c_5_E_1⟩ := cells2 k_5_E
  have l_5_E := k_5_E.lt
  have k_5_R : Blk w_5 b_R 45 #[.slice none 0 0, .int .i64 0, .int .i64 0, .int .i64 0, .int .i64 0, .int .i64 0, .slice none 0 0, .int .i64 0, .int .i64 0, .int .i64 0, .int .i64 0, .int .i64 0, .int .i64 0, .int .i64 0] := Blk.step (by (with_reducible (repeat (first | assumption | exact Blk.new' (by simp) | apply Blk.drewN | apply Blk.drew | apply Blk.alloc | (refine Blk.far ?_ (by (try simp) <;> omega) _))))) hb_5
  obtain ⟨c_5_R_0, c_5_R_1, c_5_R_2, c_5_R_3, c_5_R_4, c_5_R_5, c_5_R_6, c_5_R_7, c_5_R_8, c_5_R_9, c_5_R_10, c_5_R_11, c_5_R_12, c_5_R_13⟩ := cells14 k_5_R
  have l_5_R := k_5_R.lt
  have z_5_R := k_5_R.frozen
  have k_5_O : Blk w_5 b_O 45 #[.slice (some ⟨gS_1, 0, none⟩) n cS_1, .int .i64 a0, .int .i64 a1, .int .i64 a2, .int .i64 a3, .int .i64 a4, .slice (some ⟨gQ_1, 0, none⟩) m cQ_1, .int .i64 a5, .int .i64 a6, .int .i64 a7, .int .i64 a8, .int .i64 a9, .int .i64 a10, .int .i64 a11] := Blk.step (by (with_reducible (repeat (first | assumption | exact Blk.new' (by simp) | apply Blk.drewN | apply Blk.drew | apply Blk.alloc | (refine Blk.far ?_ (by (try simp) <;> omega) _))))) hb_5
  obtain ⟨c_5_O_0, c_5_O_1, c_5_O_2, c_5_O_3, c_5_O_4, c_5_O_5, c_5_O_6, c_5_O_7, c_5_O_8, c_5_O_9, c_5_O_10, c_5_O_11, c_5_O_12, c_5_O_13⟩ := cells14 k_5_O
  have l_5_O := k_5_O.lt
  have z_5_O := k_5_O.frozen
  have k_5_N : Blk w_5 b_N 43 #[.slice (some ⟨gN_4, 0, none⟩) zs.length cN_4, .int .i64 s0, .int .i64 s1, .int .i64 s2, .int .i64 s3, .int .i64 s4, .int .i64 s5] := kk_5
  obtain ⟨c_5_N_0, c_5_N_1, c_5_N_2, c_5_N_3, c_5_N_4, c_5_N_5, c_5_N_6⟩ := cells7 k_5_N
  have l_5_N := k_5_N.lt
  have o_5_S : OwnC w_5 gS_1 (n) cS_1 xs := OwnC.step (by with_reducible (repeat (first | assumption | apply OwnC.drewN | apply OwnC.drew | apply OwnC.alloc))) hb_5
  have o_5_Q : OCEvent w_5 gQ_1 (m) cQ_1 ys := OCEvent.step (by with_reducible (repeat (first | assumption | apply OCEvent.drewN | apply OCEvent.drew | apply OCEvent.alloc))) hb_5
  have o_5_N : OCEvent w_5 gN_4 (zs.length) cN_4 zs := OCEvent.step (by with_reducible (repeat (first | assumption | apply OCEvent.drewN | apply OCEvent.drew | apply OCEvent.alloc))) hb_5
  clear i_4 k_4_A c_4_A_0 c_4_A_1 c_4_A_2 c_4_A_3 c_4_A_4 c_4_A_5 c_4_A_6 c_4_A_7 c_4_A_8 c_4_A_9 c_4_A_10 c_4_A_11 c_4_A_12 c_4_A_13 l_4_A k_4_E c_4_E_0 c_4_E_1 l_4_E k_4_R c_4_R_0 c_4_R_1 c_4_R_2 c_4_R_3 c_4_R_4 c_4_R_5 c_4_R_6 c_4_R_7 c_4_R_8 c_4_R_9 c_4_R_10 c_4_R_11 c_4_R_12 c_4_R_13 l_4_R z_4_R k_4_O c_4_O_0 c_4_O_1 c_4_O_2 c_4_O_3 c_4_O_4 c_4_O_5 c_4_O_6 c_4_O_7 c_4_O_8 c_4_O_9 c_4_O_10 c_4_O_11 c_4_O_12 c_4_O_13 l_4_O z_4_O o_4_S o_4_Q o_4_N hb_4
  clear kk_5
  cases fl
  · have hn1_O_A : b_A ≠ b_O := by first | exact NB_A_O.out | exact NB_O_A.out.symm
    have hn2_O_A : b_O ≠ b_A := hn1_O_A.symm
    have hn1_O_E : b_E ≠ b_O := by first | exact NB_E_O.out | exact NB_O_E.out.symm
    have hn2_O_E : b_O ≠ b_E := hn1_O_E.symm
    have hn1_O_R : b_R ≠ b_O := by first | exact NB_R_O.out | exact NB_O_R.out.symm
    have hn2_O_R : b_O ≠ b_R := hn1_O_R.symm
    have hn1_O_N : b_N ≠ b_O := by first | exact NB_N_O.out | exact NB_O_N.out.symm
    have hn2_O_N : b_O ≠ b_N := hn1_O_N.symm
    go_wp2_with fail
    have kf_A : Blk ((((((((w_5.setCell ⟨b_O, 6, none⟩ (.slice (some ⟨gN_4, 0, none⟩) zs.length cN_4)).setCell ⟨b_O, 7, none⟩ (.int .i64 s0)).setCell ⟨b_O, 8, none⟩ (.int .i64 s1)).setCell ⟨b_O, 9, none⟩ (.int .i64 s2)).setCell ⟨b_O, 10, none⟩ (.int .i64 s3)).setCell ⟨b_O, 11, none⟩ (.int .i64 s4)).setCell ⟨b_O, 12, none⟩ (.int .i64 s5)).setCell ⟨b_O, 13, none⟩ (.int .i64 (a11 + dm))) b_A 45 #[.slice (some ⟨g, 0, none⟩) n c, .int .i64 a0, .int .i64 a1, .int .i64 a2, .int .i64 a3, .int .i64 a4, .slice (some ⟨h, 0, none⟩) m d, .int .i64 a5, .int .i64 a6, .int .i64 a7, .int .i64 a8, .int .i64 a9, .int .i64 a10, .int .i64 a11] := by
      have h := (Blk.far (Blk.far (Blk.far (Blk.far (Blk.far (Blk.far (Blk.far (Blk.far k_5_A (p := ⟨b_O, 6, none⟩) (by first | exact NB_A_O.out | exact NB_O_A.out.symm) (.slice (some ⟨gN_4, 0, none⟩) zs.length cN_4)) (p := ⟨b_O, 7, none⟩) (by first | exact NB_A_O.out | exact NB_O_A.out.symm) (.int .i64 s0)) (p := ⟨b_O, 8, none⟩) (by first | exact NB_A_O.out | exact NB_O_A.out.symm) (.int .i64 s1)) (p := ⟨b_O, 9, none⟩) (by first | exact NB_A_O.out | exact NB_O_A.out.symm) (.int .i64 s2)) (p := ⟨b_O, 10, none⟩) (by first | exact NB_A_O.out | exact NB_O_A.out.symm) (.int .i64 s3)) (p := ⟨b_O, 11, none⟩) (by first | exact NB_A_O.out | exact NB_O_A.out.symm) (.int .i64 s4)) (p := ⟨b_O, 12, none⟩) (by first | exact NB_A_O.out | exact NB_O_A.out.symm) (.int .i64 s5)) (p := ⟨b_O, 13, none⟩) (by first | exact NB_A_O.out | exact NB_O_A.out.symm) (.int .i64 (a11 + dm)))
      simpa using h
    have kf_E : Blk ((((((((w_5.setCell ⟨b_O, 6, none⟩ (.slice (some ⟨gN_4, 0, none⟩) zs.length cN_4)).setCell ⟨b_O, 7, none⟩ (.int .i64 s0)).setCell ⟨b_O, 8, none⟩ (.int .i64 s1)).setCell ⟨b_O, 9, none⟩ (.int .i64 s2)).setCell ⟨b_O, 10, none⟩ (.int .i64 s3)).setCell ⟨b_O, 11, none⟩ (.int .i64 s4)).setCell ⟨b_O, 12, none⟩ (.int .i64 s5)).setCell ⟨b_O, 13, none⟩ (.int .i64 (a11 + dm))) b_E 78 #[.int .i64 k, .int .i64 l] := by
      have h := (Blk.far (Blk.far (Blk.far (Blk.far (Blk.far (Blk.far (Blk.far (Blk.far k_5_E (p := ⟨b_O, 6, none⟩) (by first | exact NB_E_O.out | exact NB_O_E.out.symm) (.slice (some ⟨gN_4, 0, none⟩) zs.length cN_4)) (p := ⟨b_O, 7, none⟩) (by first | exact NB_E_O.out | exact NB_O_E.out.symm) (.int .i64 s0)) (p := ⟨b_O, 8, none⟩) (by first | exact NB_E_O.out | exact NB_O_E.out.symm) (.int .i64 s1)) (p := ⟨b_O, 9, none⟩) (by first | exact NB_E_O.out | exact NB_O_E.out.symm) (.int .i64 s2)) (p := ⟨b_O, 10, none⟩) (by first | exact NB_E_O.out | exact NB_O_E.out.symm) (.int .i64 s3)) (p := ⟨b_O, 11, none⟩) (by first | exact NB_E_O.out | exact NB_O_E.out.symm) (.int .i64 s4)) (p := ⟨b_O, 12, none⟩) (by first | exact NB_E_O.out | exact NB_O_E.out.symm) (.int .i64 s5)) (p := ⟨b_O, 13, none⟩) (by first | exact NB_E_O.out | exact NB_O_E.out.symm) (.int .i64 (a11 + dm)))
      simpa using h
    have kf_R : Blk ((((((((w_5.setCell ⟨b_O, 6, none⟩ (.slice (some ⟨gN_4, 0, none⟩) zs.length cN_4)).setCell ⟨b_O, 7, none⟩ (.int .i64 s0)).setCell ⟨b_O, 8, none⟩ (.int .i64 s1)).setCell ⟨b_O, 9, none⟩ (.int .i64 s2)).setCell ⟨b_O, 10, none⟩ (.int .i64 s3)).setCell ⟨b_O, 11, none⟩ (.int .i64 s4)).setCell ⟨b_O, 12, none⟩ (.int .i64 s5)).setCell ⟨b_O, 13, none⟩ (.int .i64 (a11 + dm))) b_R 45 #[.slice none 0 0, .int .i64 0, .int .i64 0, .int .i64 0, .int .i64 0, .int .i64 0, .slice none 0 0, .int .i64 0, .int .i64 0, .int .i64 0, .int .i64 0, .int .i64 0, .int .i64 0, .int .i64 0] := by
      have h := (Blk.far (Blk.far (Blk.far (Blk.far (Blk.far (Blk.far (Blk.far (Blk.far k_5_R (p := ⟨b_O, 6, none⟩) (by first | exact NB_R_O.out | exact NB_O_R.out.symm) (.slice (some ⟨gN_4, 0, none⟩) zs.length cN_4)) (p := ⟨b_O, 7, none⟩) (by first | exact NB_R_O.out | exact NB_O_R.out.symm) (.int .i64 s0)) (p := ⟨b_O, 8, none⟩) (by first | exact NB_R_O.out | exact NB_O_R.out.symm) (.int .i64 s1)) (p := ⟨b_O, 9, none⟩) (by first | exact NB_R_O.out | exact NB_O_R.out.symm) (.int .i64 s2)) (p := ⟨b_O, 10, none⟩) (by first | exact NB_R_O.out | exact NB_O_R.out.symm) (.int .i64 s3)) (p := ⟨b_O, 11, none⟩) (by first | exact NB_R_O.out | exact NB_O_R.out.symm) (.int .i64 s4)) (p := ⟨b_O, 12, none⟩) (by first | exact NB_R_O.out | exact NB_O_R.out.symm) (.int .i64 s5)) (p := ⟨b_O, 13, none⟩) (by first | exact NB_R_O.out | exact NB_O_R.out.symm) (.int .i64 (a11 + dm)))
      simpa using h
    have kf_O : Blk ((((((((w_5.setCell ⟨b_O, 6, none⟩ (.slice (some ⟨gN_4, 0, none⟩) zs.length cN_4)).setCell ⟨b_O, 7, none⟩ (.int .i64 s0)).setCell ⟨b_O, 8, none⟩ (.int .i64 s1)).setCell ⟨b_O, 9, none⟩ (.int .i64 s2)).setCell ⟨b_O, 10, none⟩ (.int .i64 s3)).setCell ⟨b_O, 11, none⟩ (.int .i64 s4)).setCell ⟨b_O, 12, none⟩ (.int .i64 s5)).setCell ⟨b_O, 13, none⟩ (.int .i64 (a11 + dm))) b_O 45 #[.slice (some ⟨gS_1, 0, none⟩) n cS_1, .int .i64 a0, .int .i64 a1, .int .i64 a2, .int .i64 a3, .int .i64 a4, .slice (some ⟨gN_4, 0, none⟩) zs.length cN_4, .int .i64 s0, .int .i64 s1, .int .i64 s2, .int .i64 s3, .int .i64 s4, .int .i64 s5, .int .i64 (a11 + dm)] := by
      have h := ((((((((k_5_O.set_ 6 (.slice (some ⟨gN_4, 0, none⟩) zs.length cN_4)).set_ 7 (.int .i64 s0)).set_ 8 (.int .i64 s1)).set_ 9 (.int .i64 s2)).set_ 10 (.int .i64 s3)).set_ 11 (.int .i64 s4)).set_ 12 (.int .i64 s5)).set_ 13 (.int .i64 (a11 + dm)))
      simpa using h
    have kf_N : Blk ((((((((w_5.setCell ⟨b_O, 6, none⟩ (.slice (some ⟨gN_4, 0, none⟩) zs.length cN_4)).setCell ⟨b_O, 7, none⟩ (.int .i64 s0)).setCell ⟨b_O, 8, none⟩ (.int .i64 s1)).setCell ⟨b_O, 9, none⟩ (.int .i64 s2)).setCell ⟨b_O, 10, none⟩ (.int .i64 s3)).setCell ⟨b_O, 11, none⟩ (.int .i64 s4)).setCell ⟨b_O, 12, none⟩ (.int .i64 s5)).setCell ⟨b_O, 13, none⟩ (.int .i64 (a11 + dm))) b_N 43 #[.slice (some ⟨gN_4, 0, none⟩) zs.length cN_4, .int .i64 s0, .int .i64 s1, .int .i64 s2, .int .i64 s3, .int .i64 s4, .int .i64 s5] := by
      have h := (Blk.far (Blk.far (Blk.far (Blk.far (Blk.far (Blk.far (Blk.far (Blk.far k_5_N (p := ⟨b_O, 6, none⟩) (by first | exact NB_N_O.out | exact NB_O_N.out.symm) (.slice (some ⟨gN_4, 0, none⟩) zs.length cN_4)) (p := ⟨b_O, 7, none⟩) (by first | exact NB_N_O.out | exact NB_O_N.out.symm) (.int .i64 s0)) (p := ⟨b_O, 8, none⟩) (by first | exact NB_N_O.out | exact NB_O_N.out.symm) (.int .i64 s1)) (p := ⟨b_O, 9, none⟩) (by first | exact NB_N_O.out | exact NB_O_N.out.symm) (.int .i64 s2)) (p := ⟨b_O, 10, none⟩) (by first | exact NB_N_O.out | exact NB_O_N.out.symm) (.int .i64 s3)) (p := ⟨b_O, 11, none⟩) (by first | exact NB_N_O.out | exact NB_O_N.out.symm) (.int .i64 s4)) (p := ⟨b_O, 12, none⟩) (by first | exact NB_N_O.out | exact NB_O_N.out.symm) (.int .i64 s5)) (p := ⟨b_O, 13, none⟩) (by first | exact NB_N_O.out | exact NB_O_N.out.symm) (.int .i64 (a11 + dm)))
      simpa using h
    have fo_S : OwnC ((((((((w_5.setCell ⟨b_O, 6, none⟩ (.slice (some ⟨gN_4, 0, none⟩) zs.length cN_4)).setCell ⟨b_O, 7, none⟩ (.int .i64 s0)).setCell ⟨b_O, 8, none⟩ (.int .i64 s1)).setCell ⟨b_O, 9, none⟩ (.int .i64 s2)).setCell ⟨b_O, 10, none⟩ (.int .i64 s3)).setCell ⟨b_O, 11, none⟩ (.int .i64 s4)).setCell ⟨b_O, 12, none⟩ (.int .i64 s5)).setCell ⟨b_O, 13, none⟩ (.int .i64 (a11 + dm))) gS_1 (n) cS_1 xs := OwnC.far o_5_S k_5_O (by decide) only8
    have fo_Q : OCEvent ((((((((w_5.setCell ⟨b_O, 6, none⟩ (.slice (some ⟨gN_4, 0, none⟩) zs.length cN_4)).setCell ⟨b_O, 7, none⟩ (.int .i64 s0)).setCell ⟨b_O, 8, none⟩ (.int .i64 s1)).setCell ⟨b_O, 9, none⟩ (.int .i64 s2)).setCell ⟨b_O, 10, none⟩ (.int .i64 s3)).setCell ⟨b_O, 11, none⟩ (.int .i64 s4)).setCell ⟨b_O, 12, none⟩ (.int .i64 s5)).setCell ⟨b_O, 13, none⟩ (.int .i64 (a11 + dm))) gQ_1 (m) cQ_1 ys := OCEvent.far o_5_Q k_5_O (by decide) only8
    have fo_N : OCEvent ((((((((w_5.setCell ⟨b_O, 6, none⟩ (.slice (some ⟨gN_4, 0, none⟩) zs.length cN_4)).setCell ⟨b_O, 7, none⟩ (.int .i64 s0)).setCell ⟨b_O, 8, none⟩ (.int .i64 s1)).setCell ⟨b_O, 9, none⟩ (.int .i64 s2)).setCell ⟨b_O, 10, none⟩ (.int .i64 s3)).setCell ⟨b_O, 11, none⟩ (.int .i64 s4)).setCell ⟨b_O, 12, none⟩ (.int .i64 s5)).setCell ⟨b_O, 13, none⟩ (.int .i64 (a11 + dm))) gN_4 (zs.length) cN_4 zs := OCEvent.far o_5_N k_5_O (by decide) only8
    have ii_6 : In w.heap.size w ((((((((w_5.setCell ⟨b_O, 6, none⟩ (.slice (some ⟨gN_4, 0, none⟩) zs.length cN_4)).setCell ⟨b_O, 7, none⟩ (.int .i64 s0)).setCell ⟨b_O, 8, none⟩ (.int .i64 s1)).setCell ⟨b_O, 9, none⟩ (.int .i64 s2)).setCell ⟨b_O, 10, none⟩ (.int .i64 s3)).setCell ⟨b_O, 11, none⟩ (.int .i64 s4)).setCell ⟨b_O, 12, none⟩ (.int .i64 s5)).setCell ⟨b_O, 13, none⟩ (.int .i64 (a11 + dm))) := (In.set_ (In.set_ (In.set_ (In.set_ (In.set_ (In.set_ (In.set_ (In.set_ i_5 (p := ⟨b_O, 6, none⟩) hwb_O (.slice (some ⟨gN_4, 0, none⟩) zs.length cN_4)) (p := ⟨b_O, 7, none⟩) hwb_O (.int .i64 s0)) (p := ⟨b_O, 8, none⟩) hwb_O (.int .i64 s1)) (p := ⟨b_O, 9, none⟩) hwb_O (.int .i64 s2)) (p := ⟨b_O, 10, none⟩) hwb_O (.int .i64 s3)) (p := ⟨b_O, 11, none⟩) hwb_O (.int .i64 s4)) (p := ⟨b_O, 12, none⟩) hwb_O (.int .i64 s5)) (p := ⟨b_O, 13, none⟩) hwb_O (.int .i64 (a11 + dm)))
    generalize ((((((((w_5.setCell ⟨b_O, 6, none⟩ (.slice (some ⟨gN_4, 0, none⟩) zs.length cN_4)).setCell ⟨b_O, 7, none⟩ (.int .i64 s0)).setCell ⟨b_O, 8, none⟩ (.int .i64 s1)).setCell ⟨b_O, 9, none⟩ (.int .i64 s2)).setCell ⟨b_O, 10, none⟩ (.int .i64 s3)).setCell ⟨b_O, 11, none⟩ (.int .i64 s4)).setCell ⟨b_O, 12, none⟩ (.int .i64 s5)).setCell ⟨b_O, 13, none⟩ (.int .i64 (a11 + dm))) = w_6 at *
    clear hn1_O_A hn2_O_A hn1_O_E hn2_O_E hn1_O_R hn2_O_R hn1_O_N hn2_O_N
    have i_6 : In w.heap.size w w_6 := ii_6
    have k_6_A : Blk w_6 b_A 45 #[.slice (some ⟨g, 0, none⟩) n c, .int .i64 a0, .int .i64 a1, .int .i64 a2, .int .i64 a3, .int .i64 a4, .slice (some ⟨h, 0, none⟩) m d, .int .i64 a5, .int .i64 a6, .int .i64 a7, .int .i64 a8, .int .i64 a9, .int .i64 a10, .int .i64 a11] := kf_A
    obtain ⟨c_6_A_0, c_6_A_1, c_6_A_2, c_6_A_3, c_6_A_4, c_6_A_5, c_6_A_6, c_6_A_7, c_6_A_8, c_6_A_9, c_6_A_10, c_6_A_11, c_6_A_12, c_6_A_13⟩ := cells14 k_6_A
    have l_6_A := k_6_A.lt
    have k_6_E : Blk w_6 b_E 78 #[.int .i64 k, .int .i64 l] := kf_E
    obtain ⟨c_6_E_0, c_6_E_1⟩ := cells2 k_6_E
    have l_6_E := k_6_E.lt
    have k_6_R : Blk w_6 b_R 45 #[.slice none 0 0, .int .i64 0, .int .i64 0, .int .i64 0, .int .i64 0, .int .i64 0, .slice none 0 0, .int .i64 0, .int .i64 0, .int .i64 0, .int .i64 0, .int .i64 0, .int .i64 0, .int .i64 0] := kf_R
    obtain ⟨c_6_R_0, c_6_R_1, c_6_R_2, c_6_R_3, c_6_R_4, c_6_R_5, c_6_R_6, c_6_R_7, c_6_R_8, c_6_R_9, c_6_R_10, c_6_R_11, c_6_R_12, c_6_R_13⟩ := cells14 k_6_R
    have l_6_R := k_6_R.lt
    have z_6_R := k_6_R.frozen
    have k_6_O : Blk w_6 b_O 45 #[.slice (some ⟨gS_1, 0, none⟩) n cS_1, .int .i64 a0, .int .i64 a1, .int .i64 a2, .int .i64 a3, .int .i64 a4, .slice (some ⟨gN_4, 0, none⟩) zs.length cN_4, .int .i64 s0, .int .i64 s1, .int .i64 s2, .int .i64 s3, .int .i64 s4, .int .i64 s5, .int .i64 (a11 + dm)] := kf_O
    obtain ⟨c_6_O_0, c_6_O_1, c_6_O_2, c_6_O_3, c_6_O_4, c_6_O_5, c_6_O_6, c_6_O_7, c_6_O_8, c_6_O_9, c_6_O_10, c_6_O_11, c_6_O_12, c_6_O_13⟩ := cells14 k_6_O
    have l_6_O := k_6_O.lt
    have z_6_O := k_6_O.frozen
    have k_6_N : Blk w_6 b_N 43 #[.slice (some ⟨gN_4, 0, none⟩) zs.length cN_4, .int .i64 s0, .int .i64 s1, .int .i64 s2, .int .i64 s3, .int .i64 s4, .int .i64 s5] := kf_N
    obtain ⟨c_6_N_0, c_6_N_1, c_6_N_2, c_6_N_3, c_6_N_4, c_6_N_5, c_6_N_6⟩ := cells7 k_6_N
    have l_6_N := k_6_N.lt
    have o_6_S : OwnC w_6 gS_1 (n) cS_1 xs := fo_S
    have o_6_Q : OCEvent w_6 gQ_1 (m) cQ_1 ys := fo_Q
    have o_6_N : OCEvent w_6 gN_4 (zs.length) cN_4 zs := fo_N
    clear i_5 k_5_A c_5_A_0 c_5_A_1 c_5_A_2 c_5_A_3 c_5_A_4 c_5_A_5 c_5_A_6 c_5_A_7 c_5_A_8 c_5_A_9 c_5_A_10 c_5_A_11 c_5_A_12 c_5_A_13 l_5_A k_5_E c_5_E_0 c_5_E_1 l_5_E k_5_R c_5_R_0 c_5_R_1 c_5_R_2 c_5_R_3 c_5_R_4 c_5_R_5 c_5_R_6 c_5_R_7 c_5_R_8 c_5_R_9 c_5_R_10 c_5_R_11 c_5_R_12 c_5_R_13 l_5_R z_5_R k_5_O c_5_O_0 c_5_O_1 c_5_O_2 c_5_O_3 c_5_O_4 c_5_O_5 c_5_O_6 c_5_O_7 c_5_O_8 c_5_O_9 c_5_O_10 c_5_O_11 c_5_O_12 c_5_O_13 l_5_O z_5_O k_5_N c_5_N_0 c_5_N_1 c_5_N_2 c_5_N_3 c_5_N_4 c_5_N_5 c_5_N_6 l_5_N o_5_S o_5_Q o_5_N hb_5
    clear ii_6 kf_A kf_E kf_R kf_O kf_N fo_S fo_Q fo_N
    have HV : Hid (yeB n xs m ys a0 a1 a2 a3 a4 a5 a6 a7 a8 a9 a10 a11 k l dm = false) := Lib.hid (by simp [yeB, HFL.out])
    go_wp2_with fail
    refine (s38Copy g n c xs h m d ys a0 a1 a2 a3 a4 a5 a6 a7 a8 a9 a10 a11 _ hn (by omega) (HX.out.in_ (by (repeat (first | exact In.refl _ | assumption | apply In.alloc | apply In.drewN | apply In.drew | (refine In.step ?_ (by assumption)))))) (HY.out.in_ (by (repeat (first | exact In.refl _ | assumption | apply In.alloc | apply In.drewN | apply In.drew | (refine In.step ?_ (by assumption))))))).mono ?_
    rintro _ w_7 ⟨gC_7, cC_7, gD_7, cD_7, rfl, hoC_7, hgC_7, hoD_7, hgD_7, hb_7⟩
    have NE_S_C : Hid (gS_1 ≠ gC_7) := Lib.hid (by have h1 := hgC_7; (try simp at h1); have h2 := OwnC.lt o_6_S; omega)
    have NE_Q_C : Hid (gQ_1 ≠ gC_7) := Lib.hid (by have h1 := hgC_7; (try simp at h1); have h2 := OCEvent.lt o_6_Q; omega)
    have NE_N_C : Hid (gN_4 ≠ gC_7) := Lib.hid (by have h1 := hgC_7; (try simp at h1); have h2 := OCEvent.lt o_6_N; omega)
    have GX_C : Hid (w.heap.size ≤ gC_7) := Lib.hid (by have h1 := hgC_7; (try simp at h1); have h2 := In.size i_6; omega)
    have o_7_C : OwnC w_7 gC_7 (n) cC_7 xs := hoC_7
    clear hoC_7 hgC_7
    have NE_S_D : Hid (gS_1 ≠ gD_7) := Lib.hid (by have h1 := hgD_7; (try simp at h1); have h2 := OwnC.lt o_6_S; omega)
    have NE_Q_D : Hid (gQ_1 ≠ gD_7) := Lib.hid (by have h1 := hgD_7; (try simp at h1); have h2 := OCEvent.lt o_6_Q; omega)
    have NE_N_D : Hid (gN_4 ≠ gD_7) := Lib.hid (by have h1 := hgD_7; (try simp at h1); have h2 := OCEvent.lt o_6_N; omega)
    have NE_C_D : Hid (gC_7 ≠ gD_7) := Lib.hid (ne_OwnC_OCEvent o_7_C hoD_7)
    have GX_D : Hid (w.heap.size ≤ gD_7) := Lib.hid (by have h1 := hgD_7; (try simp at h1); have h2 := In.size i_6; omega)
    have o_7_D : OCEvent w_7 gD_7 (m) cD_7 ys := hoD_7
    clear hoD_7 hgD_7
    have i_7 : In w.heap.size w w_7 := In.step (by (repeat (first | exact In.refl _ | assumption | apply In.alloc | apply In.drewN | apply In.drew | (refine In.step ?_ (by assumption))))) hb_7
    have k_7_A : Blk w_7 b_A 45 #[.slice (some ⟨g, 0, none⟩) n c, .int .i64 a0, .int .i64 a1, .int .i64 a2, .int .i64 a3, .int .i64 a4, .slice (some ⟨h, 0, none⟩) m d, .int .i64 a5, .int .i64 a6, .int .i64 a7, .int .i64 a8, .int .i64 a9, .int .i64 a10, .int .i64 a11] := Blk.step (by (with_reducible (repeat (first | assumption | exact Blk.new' (by simp) | apply Blk.drewN | apply Blk.drew | apply Blk.alloc | (refine Blk.far ?_ (by (try simp) <;> omega) _))))) hb_7
    obtain ⟨c_7_A_0, c_7_A_1, c_7_A_2, c_7_A_3, c_7_A_4, c_7_A_5, c_7_A_6, c_7_A_7, c_7_A_8, c_7_A_9, c_7_A_10, c_7_A_11, c_7_A_12, c_7_A_13⟩ := cells14 k_7_A
    have l_7_A := k_7_A.lt
    have k_7_E : Blk w_7 b_E 78 #[.int .i64 k, .int .i64 l] := Blk.step (by (with_reducible (repeat (first | assumption | exact Blk.new' (by simp) | apply Blk.drewN | apply Blk.drew | apply Blk.alloc | (refine Blk.far ?_ (by (try simp) <;> omega) _))))) hb_7
    obtain ⟨c_7_E_0, c_7_E_1⟩ := cells2 k_7_E
    have l_7_E := k_7_E.lt
    have k_7_R : Blk w_7 b_R 45 #[.slice none 0 0, .int .i64 0, .int .i64 0, .int .i64 0, .int .i64 0, .int .i64 0, .slice none 0 0, .int .i64 0, .int .i64 0, .int .i64 0, .int .i64 0, .int .i64 0, .int .i64 0, .int .i64 0] := Blk.step (by (with_reducible (repeat (first | assumption | exact Blk.new' (by simp) | apply Blk.drewN | apply Blk.drew | apply Blk.alloc | (refine Blk.far ?_ (by (try simp) <;> omega) _))))) hb_7
    obtain ⟨c_7_R_0, c_7_R_1, c_7_R_2, c_7_R_3, c_7_R_4, c_7_R_5, c_7_R_6, c_7_R_7, c_7_R_8, c_7_R_9, c_7_R_10, c_7_R_11, c_7_R_12, c_7_R_13⟩ := cells14 k_7_R
    have l_7_R := k_7_R.lt
    have z_7_R := k_7_R.frozen
    have k_7_O : Blk w_7 b_O 45 #[.slice (some ⟨gS_1, 0, none⟩) n cS_1, .int .i64 a0, .int .i64 a1, .int .i64 a2, .int .i64 a3, .int .i64 a4, .slice (some ⟨gN_4, 0, none⟩) zs.length cN_4, .int .i64 s0, .int .i64 s1, .int .i64 s2, .int .i64 s3, .int .i64 s4, .int .i64 s5, .int .i64 (a11 + dm)] := Blk.step (by (with_reducible (repeat (first | assumption | exact Blk.new' (by simp) | apply Blk.drewN | apply Blk.drew | apply Blk.alloc | (refine Blk.far ?_ (by (try simp) <;> omega) _))))) hb_7
    obtain ⟨c_7_O_0, c_7_O_1, c_7_O_2, c_7_O_3, c_7_O_4, c_7_O_5, c_7_O_6, c_7_O_7, c_7_O_8, c_7_O_9, c_7_O_10, c_7_O_11, c_7_O_12, c_7_O_13⟩ := cells14 k_7_O
    have l_7_O := k_7_O.lt
    have z_7_O := k_7_O.frozen
    have k_7_N : Blk w_7 b_N 43 #[.slice (some ⟨gN_4, 0, none⟩) zs.length cN_4, .int .i64 s0, .int .i64 s1, .int .i64 s2, .int .i64 s3, .int .i64 s4, .int .i64 s5] := Blk.step (by (with_reducible (repeat (first | assumption | exact Blk.new' (by simp) | apply Blk.drewN | apply Blk.drew | apply Blk.alloc | (refine Blk.far ?_ (by (try simp) <;> omega) _))))) hb_7
    obtain ⟨c_7_N_0, c_7_N_1, c_7_N_2, c_7_N_3, c_7_N_4, c_7_N_5, c_7_N_6⟩ := cells7 k_7_N
    have l_7_N := k_7_N.lt
    have o_7_S : OwnC w_7 gS_1 (n) cS_1 xs := OwnC.step (by with_reducible (repeat (first | assumption | apply OwnC.drewN | apply OwnC.drew | apply OwnC.alloc))) hb_7
    have o_7_Q : OCEvent w_7 gQ_1 (m) cQ_1 ys := OCEvent.step (by with_reducible (repeat (first | assumption | apply OCEvent.drewN | apply OCEvent.drew | apply OCEvent.alloc))) hb_7
    have o_7_N : OCEvent w_7 gN_4 (zs.length) cN_4 zs := OCEvent.step (by with_reducible (repeat (first | assumption | apply OCEvent.drewN | apply OCEvent.drew | apply OCEvent.alloc))) hb_7
    clear i_6 k_6_A c_6_A_0 c_6_A_1 c_6_A_2 c_6_A_3 c_6_A_4 c_6_A_5 c_6_A_6 c_6_A_7 c_6_A_8 c_6_A_9 c_6_A_10 c_6_A_11 c_6_A_12 c_6_A_13 l_6_A k_6_E c_6_E_0 c_6_E_1 l_6_E k_6_R c_6_R_0 c_6_R_1 c_6_R_2 c_6_R_3 c_6_R_4 c_6_R_5 c_6_R_6 c_6_R_7 c_6_R_8 c_6_R_9 c_6_R_10 c_6_R_11 c_6_R_12 c_6_R_13 l_6_R z_6_R k_6_O c_6_O_0 c_6_O_1 c_6_O_2 c_6_O_3 c_6_O_4 c_6_O_5 c_6_O_6 c_6_O_7 c_6_O_8 c_6_O_9 c_6_O_10 c_6_O_11 c_6_O_12 c_6_O_13 l_6_O z_6_O k_6_N c_6_N_0 c_6_N_1 c_6_N_2 c_6_N_3 c_6_N_4 c_6_N_5 c_6_N_6 l_6_N o_6_S o_6_Q o_6_N
    have hn1_R_A : b_A ≠ b_R := by first | exact NB_A_R.out | exact NB_R_A.out.symm
    have hn2_R_A : b_R ≠ b_A := hn1_R_A.symm
    have hn1_R_E : b_E ≠ b_R := by first | exact NB_E_R.out | exact NB_R_E.out.symm
    have hn2_R_E : b_R ≠ b_E := hn1_R_E.symm
    have hn1_R_O : b_O ≠ b_R := by first | exact NB_O_R.out | exact NB_R_O.out.symm
    have hn2_R_O : b_R ≠ b_O := hn1_R_O.symm
    have hn1_R_N : b_N ≠ b_R := by first | exact NB_N_R.out | exact NB_R_N.out.symm
    have hn2_R_N : b_R ≠ b_N := hn1_R_N.symm
    have kk : Blk ((((((((((((((w_7.setCell ⟨b_R, 0, none⟩ (.slice (some ⟨gC_7, 0, none⟩) n cC_7)).setCell ⟨b_R, 1, none⟩ (.int .i64 a0)).setCell ⟨b_R, 2, none⟩ (.int .i64 a1)).setCell ⟨b_R, 3, none⟩ (.int .i64 a2)).setCell ⟨b_R, 4, none⟩ (.int .i64 a3)).setCell ⟨b_R, 5, none⟩ (.int .i64 a4)).setCell ⟨b_R, 6, none⟩ (.slice (some ⟨gD_7, 0, none⟩) m cD_7)).setCell ⟨b_R, 7, none⟩ (.int .i64 a5)).setCell ⟨b_R, 8, none⟩ (.int .i64 a6)).setCell ⟨b_R, 9, none⟩ (.int .i64 a7)).setCell ⟨b_R, 10, none⟩ (.int .i64 a8)).setCell ⟨b_R, 11, none⟩ (.int .i64 a9)).setCell ⟨b_R, 12, none⟩ (.int .i64 a10)).setCell ⟨b_R, 13, none⟩ (.int .i64 a11)) b_R 45 #[.slice (some ⟨gC_7, 0, none⟩) n cC_7, .int .i64 a0, .int .i64 a1, .int .i64 a2, .int .i64 a3, .int .i64 a4, .slice (some ⟨gD_7, 0, none⟩) m cD_7, .int .i64 a5, .int .i64 a6, .int .i64 a7, .int .i64 a8, .int .i64 a9, .int .i64 a10, .int .i64 a11] := blks14 k_7_R
    have i9 : In w.heap.size w ((((((((((((((w_7.setCell ⟨b_R, 0, none⟩ (.slice (some ⟨gC_7, 0, none⟩) n cC_7)).setCell ⟨b_R, 1, none⟩ (.int .i64 a0)).setCell ⟨b_R, 2, none⟩ (.int .i64 a1)).setCell ⟨b_R, 3, none⟩ (.int .i64 a2)).setCell ⟨b_R, 4, none⟩ (.int .i64 a3)).setCell ⟨b_R, 5, none⟩ (.int .i64 a4)).setCell ⟨b_R, 6, none⟩ (.slice (some ⟨gD_7, 0, none⟩) m cD_7)).setCell ⟨b_R, 7, none⟩ (.int .i64 a5)).setCell ⟨b_R, 8, none⟩ (.int .i64 a6)).setCell ⟨b_R, 9, none⟩ (.int .i64 a7)).setCell ⟨b_R, 10, none⟩ (.int .i64 a8)).setCell ⟨b_R, 11, none⟩ (.int .i64 a9)).setCell ⟨b_R, 12, none⟩ (.int .i64 a10)).setCell ⟨b_R, 13, none⟩ (.int .i64 a11)) := ins14 i_7 hwb_R
    have OS : Hid (OwnC ((((((((((((((w_7.setCell ⟨b_R, 0, none⟩ (.slice (some ⟨gC_7, 0, none⟩) n cC_7)).setCell ⟨b_R, 1, none⟩ (.int .i64 a0)).setCell ⟨b_R, 2, none⟩ (.int .i64 a1)).setCell ⟨b_R, 3, none⟩ (.int .i64 a2)).setCell ⟨b_R, 4, none⟩ (.int .i64 a3)).setCell ⟨b_R, 5, none⟩ (.int .i64 a4)).setCell ⟨b_R, 6, none⟩ (.slice (some ⟨gD_7, 0, none⟩) m cD_7)).setCell ⟨b_R, 7, none⟩ (.int .i64 a5)).setCell ⟨b_R, 8, none⟩ (.int .i64 a6)).setCell ⟨b_R, 9, none⟩ (.int .i64 a7)).setCell ⟨b_R, 10, none⟩ (.int .i64 a8)).setCell ⟨b_R, 11, none⟩ (.int .i64 a9)).setCell ⟨b_R, 12, none⟩ (.int .i64 a10)).setCell ⟨b_R, 13, none⟩ (.int .i64 a11)) gS_1 (n) cS_1 xs) := Lib.hid (OwnC.far o_7_S k_7_R (by decide) only14)
    have OQ : Hid (OCEvent ((((((((((((((w_7.setCell ⟨b_R, 0, none⟩ (.slice (some ⟨gC_7, 0, none⟩) n cC_7)).setCell ⟨b_R, 1, none⟩ (.int .i64 a0)).setCell ⟨b_R, 2, none⟩ (.int .i64 a1)).setCell ⟨b_R, 3, none⟩ (.int .i64 a2)).setCell ⟨b_R, 4, none⟩ (.int .i64 a3)).setCell ⟨b_R, 5, none⟩ (.int .i64 a4)).setCell ⟨b_R, 6, none⟩ (.slice (some ⟨gD_7, 0, none⟩) m cD_7)).setCell ⟨b_R, 7, none⟩ (.int .i64 a5)).setCell ⟨b_R, 8, none⟩ (.int .i64 a6)).setCell ⟨b_R, 9, none⟩ (.int .i64 a7)).setCell ⟨b_R, 10, none⟩ (.int .i64 a8)).setCell ⟨b_R, 11, none⟩ (.int .i64 a9)).setCell ⟨b_R, 12, none⟩ (.int .i64 a10)).setCell ⟨b_R, 13, none⟩ (.int .i64 a11)) gQ_1 (m) cQ_1 ys) := Lib.hid (OCEvent.far o_7_Q k_7_R (by decide) only14)
    have ON : Hid (OCEvent ((((((((((((((w_7.setCell ⟨b_R, 0, none⟩ (.slice (some ⟨gC_7, 0, none⟩) n cC_7)).setCell ⟨b_R, 1, none⟩ (.int .i64 a0)).setCell ⟨b_R, 2, none⟩ (.int .i64 a1)).setCell ⟨b_R, 3, none⟩ (.int .i64 a2)).setCell ⟨b_R, 4, none⟩ (.int .i64 a3)).setCell ⟨b_R, 5, none⟩ (.int .i64 a4)).setCell ⟨b_R, 6, none⟩ (.slice (some ⟨gD_7, 0, none⟩) m cD_7)).setCell ⟨b_R, 7, none⟩ (.int .i64 a5)).setCell ⟨b_R, 8, none⟩ (.int .i64 a6)).setCell ⟨b_R, 9, none⟩ (.int .i64 a7)).setCell ⟨b_R, 10, none⟩ (.int .i64 a8)).setCell ⟨b_R, 11, none⟩ (.int .i64 a9)).setCell ⟨b_R, 12, none⟩ (.int .i64 a10)).setCell ⟨b_R, 13, none⟩ (.int .i64 a11)) gN_4 (zs.length) cN_4 zs) := Lib.hid (OCEvent.far o_7_N k_7_R (by decide) only14)
    have OC : Hid (OwnC ((((((((((((((w_7.setCell ⟨b_R, 0, none⟩ (.slice (some ⟨gC_7, 0, none⟩) n cC_7)).setCell ⟨b_R, 1, none⟩ (.int .i64 a0)).setCell ⟨b_R, 2, none⟩ (.int .i64 a1)).setCell ⟨b_R, 3, none⟩ (.int .i64 a2)).setCell ⟨b_R, 4, none⟩ (.int .i64 a3)).setCell ⟨b_R, 5, none⟩ (.int .i64 a4)).setCell ⟨b_R, 6, none⟩ (.slice (some ⟨gD_7, 0, none⟩) m cD_7)).setCell ⟨b_R, 7, none⟩ (.int .i64 a5)).setCell ⟨b_R, 8, none⟩ (.int .i64 a6)).setCell ⟨b_R, 9, none⟩ (.int .i64 a7)).setCell ⟨b_R, 10, none⟩ (.int .i64 a8)).setCell ⟨b_R, 11, none⟩ (.int .i64 a9)).setCell ⟨b_R, 12, none⟩ (.int .i64 a10)).setCell ⟨b_R, 13, none⟩ (.int .i64 a11)) gC_7 (n) cC_7 xs) := Lib.hid (OwnC.far o_7_C k_7_R (by decide) only14)
    have OD : Hid (OCEvent ((((((((((((((w_7.setCell ⟨b_R, 0, none⟩ (.slice (some ⟨gC_7, 0, none⟩) n cC_7)).setCell ⟨b_R, 1, none⟩ (.int .i64 a0)).setCell ⟨b_R, 2, none⟩ (.int .i64 a1)).setCell ⟨b_R, 3, none⟩ (.int .i64 a2)).setCell ⟨b_R, 4, none⟩ (.int .i64 a3)).setCell ⟨b_R, 5, none⟩ (.int .i64 a4)).setCell ⟨b_R, 6, none⟩ (.slice (some ⟨gD_7, 0, none⟩) m cD_7)).setCell ⟨b_R, 7, none⟩ (.int .i64 a5)).setCell ⟨b_R, 8, none⟩ (.int .i64 a6)).setCell ⟨b_R, 9, none⟩ (.int .i64 a7)).setCell ⟨b_R, 10, none⟩ (.int .i64 a8)).setCell ⟨b_R, 11, none⟩ (.int .i64 a9)).setCell ⟨b_R, 12, none⟩ (.int .i64 a10)).setCell ⟨b_R, 13, none⟩ (.int .i64 a11)) gD_7 (m) cD_7 ys) := Lib.hid (OCEvent.far o_7_D k_7_R (by decide) only14)
    have HK0 : Hid ((_ : World).cell? ⟨b_R, 0, none⟩ = some (.slice (some ⟨gC_7, 0, none⟩) n cC_7)) := Lib.hid (kk.cell 0)
    have HK1 : Hid ((_ : World).cell? ⟨b_R, 1, none⟩ = some (.int .i64 a0)) := Lib.hid (kk.cell 1)
    have HK2 : Hid ((_ : World).cell? ⟨b_R, 2, none⟩ = some (.int .i64 a1)) := Lib.hid (kk.cell 2)
    have HK3 : Hid ((_ : World).cell? ⟨b_R, 3, none⟩ = some (.int .i64 a2)) := Lib.hid (kk.cell 3)
    have HK4 : Hid ((_ : World).cell? ⟨b_R, 4, none⟩ = some (.int .i64 a3)) := Lib.hid (kk.cell 4)
    have HK5 : Hid ((_ : World).cell? ⟨b_R, 5, none⟩ = some (.int .i64 a4)) := Lib.hid (kk.cell 5)
    have HK6 : Hid ((_ : World).cell? ⟨b_R, 6, none⟩ = some (.slice (some ⟨gD_7, 0, none⟩) m cD_7)) := Lib.hid (kk.cell 6)
    have HK7 : Hid ((_ : World).cell? ⟨b_R, 7, none⟩ = some (.int .i64 a5)) := Lib.hid (kk.cell 7)
    have HK8 : Hid ((_ : World).cell? ⟨b_R, 8, none⟩ = some (.int .i64 a6)) := Lib.hid (kk.cell 8)
    have HK9 : Hid ((_ : World).cell? ⟨b_R, 9, none⟩ = some (.int .i64 a7)) := Lib.hid (kk.cell 9)
    have HK10 : Hid ((_ : World).cell? ⟨b_R, 10, none⟩ = some (.int .i64 a8)) := Lib.hid (kk.cell 10)
    have HK11 : Hid ((_ : World).cell? ⟨b_R, 11, none⟩ = some (.int .i64 a9)) := Lib.hid (kk.cell 11)
    have HK12 : Hid ((_ : World).cell? ⟨b_R, 12, none⟩ = some (.int .i64 a10)) := Lib.hid (kk.cell 12)
    have HK13 : Hid ((_ : World).cell? ⟨b_R, 13, none⟩ = some (.int .i64 a11)) := Lib.hid (kk.cell 13)
    clear kk
    clear o_7_S o_7_Q o_7_N o_7_C o_7_D
    go_wp2
    have hk0 := HK0.out
    have hk1 := HK1.out
    have hk2 := HK2.out
    have hk3 := HK3.out
    have hk4 := HK4.out
    have hk5 := HK5.out
    have hk6 := HK6.out
    have hk7 := HK7.out
    have hk8 := HK8.out
    have hk9 := HK9.out
    have hk10 := HK10.out
    have hk11 := HK11.out
    have hk12 := HK12.out
    have hk13 := HK13.out
    exact bodyPost_ret (v := .tuple #[.agg #[.slice (some ⟨gC_7, 0, none⟩) n cC_7, .int .i64 a0, .int .i64 a1, .int .i64 a2, .int .i64 a3, .int .i64 a4, .slice (some ⟨gD_7, 0, none⟩) m cD_7, .int .i64 a5, .int .i64 a6, .int .i64 a7, .int .i64 a8, .int .i64 a9, .int .i64 a10, .int .i64 a11], .bool false]) (by simp [results, Try.results38, go_sem, hk0, hk1, hk2, hk3, hk4, hk5, hk6, hk7, hk8, hk9, hk10, hk11, hk12, hk13]) rfl (rowYV_of (by simp [yeL, HV.out]) (by simp [yeS, HV.out]) (by simp [yeS, HV.out]) (by simp [yeS, HV.out]) (by simp [yeS, HV.out]) (by simp [yeS, HV.out]) (by simp [yeS, HV.out]) (by simp [yeM, HV.out]) (by rw [HV.out]) OC.out GX_C.out OD.out GX_D.out i9.below)
  have hn1_O_A : b_A ≠ b_O := by first | exact NB_A_O.out | exact NB_O_A.out.symm
  have hn2_O_A : b_O ≠ b_A := hn1_O_A.symm
  have hn1_O_E : b_E ≠ b_O := by first | exact NB_E_O.out | exact NB_O_E.out.symm
  have hn2_O_E : b_O ≠ b_E := hn1_O_E.symm
  have hn1_O_R : b_R ≠ b_O := by first | exact NB_R_O.out | exact NB_O_R.out.symm
  have hn2_O_R : b_O ≠ b_R := hn1_O_R.symm
  have hn1_O_N : b_N ≠ b_O := by first | exact NB_N_O.out | exact NB_O_N.out.symm
  have hn2_O_N : b_O ≠ b_N := hn1_O_N.symm
  go_wp2_with fail
  have kf_A : Blk ((((((((w_5.setCell ⟨b_O, 6, none⟩ (.slice (some ⟨gN_4, 0, none⟩) zs.length cN_4)).setCell ⟨b_O, 7, none⟩ (.int .i64 s0)).setCell ⟨b_O, 8, none⟩ (.int .i64 s1)).setCell ⟨b_O, 9, none⟩ (.int .i64 s2)).setCell ⟨b_O, 10, none⟩ (.int .i64 s3)).setCell ⟨b_O, 11, none⟩ (.int .i64 s4)).setCell ⟨b_O, 12, none⟩ (.int .i64 s5)).setCell ⟨b_O, 13, none⟩ (.int .i64 (a11 + dm))) b_A 45 #[.slice (some ⟨g, 0, none⟩) n c, .int .i64 a0, .int .i64 a1, .int .i64 a2, .int .i64 a3, .int .i64 a4, .slice (some ⟨h, 0, none⟩) m d, .int .i64 a5, .int .i64 a6, .int .i64 a7, .int .i64 a8, .int .i64 a9, .int .i64 a10, .int .i64 a11] := by
    have h := (Blk.far (Blk.far (Blk.far (Blk.far (Blk.far (Blk.far (Blk.far (Blk.far k_5_A (p := ⟨b_O, 6, none⟩) (by first | exact NB_A_O.out | exact NB_O_A.out.symm) (.slice (some ⟨gN_4, 0, none⟩) zs.length cN_4)) (p := ⟨b_O, 7, none⟩) (by first | exact NB_A_O.out | exact NB_O_A.out.symm) (.int .i64 s0)) (p := ⟨b_O, 8, none⟩) (by first | exact NB_A_O.out | exact NB_O_A.out.symm) (.int .i64 s1)) (p := ⟨b_O, 9, none⟩) (by first | exact NB_A_O.out | exact NB_O_A.out.symm) (.int .i64 s2)) (p := ⟨b_O, 10, none⟩) (by first | exact NB_A_O.out | exact NB_O_A.out.symm) (.int .i64 s3)) (p := ⟨b_O, 11, none⟩) (by first | exact NB_A_O.out | exact NB_O_A.out.symm) (.int .i64 s4)) (p := ⟨b_O, 12, none⟩) (by first | exact NB_A_O.out | exact NB_O_A.out.symm) (.int .i64 s5)) (p := ⟨b_O, 13, none⟩) (by first | exact NB_A_O.out | exact NB_O_A.out.symm) (.int .i64 (a11 + dm)))
    simpa using h
  have kf_E : Blk ((((((((w_5.setCell ⟨b_O, 6, none⟩ (.slice (some ⟨gN_4, 0, none⟩) zs.length cN_4)).setCell ⟨b_O, 7, none⟩ (.int .i64 s0)).setCell ⟨b_O, 8, none⟩ (.int .i64 s1)).setCell ⟨b_O, 9, none⟩ (.int .i64 s2)).setCell ⟨b_O, 10, none⟩ (.int .i64 s3)).setCell ⟨b_O, 11, none⟩ (.int .i64 s4)).setCell ⟨b_O, 12, none⟩ (.int .i64 s5)).setCell ⟨b_O, 13, none⟩ (.int .i64 (a11 + dm))) b_E 78 #[.int .i64 k, .int .i64 l] := by
    have h := (Blk.far (Blk.far (Blk.far (Blk.far (Blk.far (Blk.far (Blk.far (Blk.far k_5_E (p := ⟨b_O, 6, none⟩) (by first | exact NB_E_O.out | exact NB_O_E.out.symm) (.slice (some ⟨gN_4, 0, none⟩) zs.length cN_4)) (p := ⟨b_O, 7, none⟩) (by first | exact NB_E_O.out | exact NB_O_E.out.symm) (.int .i64 s0)) (p := ⟨b_O, 8, none⟩) (by first | exact NB_E_O.out | exact NB_O_E.out.symm) (.int .i64 s1)) (p := ⟨b_O, 9, none⟩) (by first | exact NB_E_O.out | exact NB_O_E.out.symm) (.int .i64 s2)) (p := ⟨b_O, 10, none⟩) (by first | exact NB_E_O.out | exact NB_O_E.out.symm) (.int .i64 s3)) (p := ⟨b_O, 11, none⟩) (by first | exact NB_E_O.out | exact NB_O_E.out.symm) (.int .i64 s4)) (p := ⟨b_O, 12, none⟩) (by first | exact NB_E_O.out | exact NB_O_E.out.symm) (.int .i64 s5)) (p := ⟨b_O, 13, none⟩) (by first | exact NB_E_O.out | exact NB_O_E.out.symm) (.int .i64 (a11 + dm)))
    simpa using h
  have kf_R : Blk ((((((((w_5.setCell ⟨b_O, 6, none⟩ (.slice (some ⟨gN_4, 0, none⟩) zs.length cN_4)).setCell ⟨b_O, 7, none⟩ (.int .i64 s0)).setCell ⟨b_O, 8, none⟩ (.int .i64 s1)).setCell ⟨b_O, 9, none⟩ (.int .i64 s2)).setCell ⟨b_O, 10, none⟩ (.int .i64 s3)).setCell ⟨b_O, 11, none⟩ (.int .i64 s4)).setCell ⟨b_O, 12, none⟩ (.int .i64 s5)).setCell ⟨b_O, 13, none⟩ (.int .i64 (a11 + dm))) b_R 45 #[.slice none 0 0, .int .i64 0, .int .i64 0, .int .i64 0, .int .i64 0, .int .i64 0, .slice none 0 0, .int .i64 0, .int .i64 0, .int .i64 0, .int .i64 0, .int .i64 0, .int .i64 0, .int .i64 0] := by
    have h := (Blk.far (Blk.far (Blk.far (Blk.far (Blk.far (Blk.far (Blk.far (Blk.far k_5_R (p := ⟨b_O, 6, none⟩) (by first | exact NB_R_O.out | exact NB_O_R.out.symm) (.slice (some ⟨gN_4, 0, none⟩) zs.length cN_4)) (p := ⟨b_O, 7, none⟩) (by first | exact NB_R_O.out | exact NB_O_R.out.symm) (.int .i64 s0)) (p := ⟨b_O, 8, none⟩) (by first | exact NB_R_O.out | exact NB_O_R.out.symm) (.int .i64 s1)) (p := ⟨b_O, 9, none⟩) (by first | exact NB_R_O.out | exact NB_O_R.out.symm) (.int .i64 s2)) (p := ⟨b_O, 10, none⟩) (by first | exact NB_R_O.out | exact NB_O_R.out.symm) (.int .i64 s3)) (p := ⟨b_O, 11, none⟩) (by first | exact NB_R_O.out | exact NB_O_R.out.symm) (.int .i64 s4)) (p := ⟨b_O, 12, none⟩) (by first | exact NB_R_O.out | exact NB_O_R.out.symm) (.int .i64 s5)) (p := ⟨b_O, 13, none⟩) (by first | exact NB_R_O.out | exact NB_O_R.out.symm) (.int .i64 (a11 + dm)))
    simpa using h
  have kf_O : Blk ((((((((w_5.setCell ⟨b_O, 6, none⟩ (.slice (some ⟨gN_4, 0, none⟩) zs.length cN_4)).setCell ⟨b_O, 7, none⟩ (.int .i64 s0)).setCell ⟨b_O, 8, none⟩ (.int .i64 s1)).setCell ⟨b_O, 9, none⟩ (.int .i64 s2)).setCell ⟨b_O, 10, none⟩ (.int .i64 s3)).setCell ⟨b_O, 11, none⟩ (.int .i64 s4)).setCell ⟨b_O, 12, none⟩ (.int .i64 s5)).setCell ⟨b_O, 13, none⟩ (.int .i64 (a11 + dm))) b_O 45 #[.slice (some ⟨gS_1, 0, none⟩) n cS_1, .int .i64 a0, .int .i64 a1, .int .i64 a2, .int .i64 a3, .int .i64 a4, .slice (some ⟨gN_4, 0, none⟩) zs.length cN_4, .int .i64 s0, .int .i64 s1, .int .i64 s2, .int .i64 s3, .int .i64 s4, .int .i64 s5, .int .i64 (a11 + dm)] := by
    have h := ((((((((k_5_O.set_ 6 (.slice (some ⟨gN_4, 0, none⟩) zs.length cN_4)).set_ 7 (.int .i64 s0)).set_ 8 (.int .i64 s1)).set_ 9 (.int .i64 s2)).set_ 10 (.int .i64 s3)).set_ 11 (.int .i64 s4)).set_ 12 (.int .i64 s5)).set_ 13 (.int .i64 (a11 + dm)))
    simpa using h
  have kf_N : Blk ((((((((w_5.setCell ⟨b_O, 6, none⟩ (.slice (some ⟨gN_4, 0, none⟩) zs.length cN_4)).setCell ⟨b_O, 7, none⟩ (.int .i64 s0)).setCell ⟨b_O, 8, none⟩ (.int .i64 s1)).setCell ⟨b_O, 9, none⟩ (.int .i64 s2)).setCell ⟨b_O, 10, none⟩ (.int .i64 s3)).setCell ⟨b_O, 11, none⟩ (.int .i64 s4)).setCell ⟨b_O, 12, none⟩ (.int .i64 s5)).setCell ⟨b_O, 13, none⟩ (.int .i64 (a11 + dm))) b_N 43 #[.slice (some ⟨gN_4, 0, none⟩) zs.length cN_4, .int .i64 s0, .int .i64 s1, .int .i64 s2, .int .i64 s3, .int .i64 s4, .int .i64 s5] := by
    have h := (Blk.far (Blk.far (Blk.far (Blk.far (Blk.far (Blk.far (Blk.far (Blk.far k_5_N (p := ⟨b_O, 6, none⟩) (by first | exact NB_N_O.out | exact NB_O_N.out.symm) (.slice (some ⟨gN_4, 0, none⟩) zs.length cN_4)) (p := ⟨b_O, 7, none⟩) (by first | exact NB_N_O.out | exact NB_O_N.out.symm) (.int .i64 s0)) (p := ⟨b_O, 8, none⟩) (by first | exact NB_N_O.out | exact NB_O_N.out.symm) (.int .i64 s1)) (p := ⟨b_O, 9, none⟩) (by first | exact NB_N_O.out | exact NB_O_N.out.symm) (.int .i64 s2)) (p := ⟨b_O, 10, none⟩) (by first | exact NB_N_O.out | exact NB_O_N.out.symm) (.int .i64 s3)) (p := ⟨b_O, 11, none⟩) (by first | exact NB_N_O.out | exact NB_O_N.out.symm) (.int .i64 s4)) (p := ⟨b_O, 12, none⟩) (by first | exact NB_N_O.out | exact NB_O_N.out.symm) (.int .i64 s5)) (p := ⟨b_O, 13, none⟩) (by first | exact NB_N_O.out | exact NB_O_N.out.symm) (.int .i64 (a11 + dm)))
    simpa using h
  have fo_S : OwnC ((((((((w_5.setCell ⟨b_O, 6, none⟩ (.slice (some ⟨gN_4, 0, none⟩) zs.length cN_4)).setCell ⟨b_O, 7, none⟩ (.int .i64 s0)).setCell ⟨b_O, 8, none⟩ (.int .i64 s1)).setCell ⟨b_O, 9, none⟩ (.int .i64 s2)).setCell ⟨b_O, 10, none⟩ (.int .i64 s3)).setCell ⟨b_O, 11, none⟩ (.int .i64 s4)).setCell ⟨b_O, 12, none⟩ (.int .i64 s5)).setCell ⟨b_O, 13, none⟩ (.int .i64 (a11 + dm))) gS_1 (n) cS_1 xs := OwnC.far o_5_S k_5_O (by decide) only8
  have fo_Q : OCEvent ((((((((w_5.setCell ⟨b_O, 6, none⟩ (.slice (some ⟨gN_4, 0, none⟩) zs.length cN_4)).setCell ⟨b_O, 7, none⟩ (.int .i64 s0)).setCell ⟨b_O, 8, none⟩ (.int .i64 s1)).setCell ⟨b_O, 9, none⟩ (.int .i64 s2)).setCell ⟨b_O, 10, none⟩ (.int .i64 s3)).setCell ⟨b_O, 11, none⟩ (.int .i64 s4)).setCell ⟨b_O, 12, none⟩ (.int .i64 s5)).setCell ⟨b_O, 13, none⟩ (.int .i64 (a11 + dm))) gQ_1 (m) cQ_1 ys := OCEvent.far o_5_Q k_5_O (by decide) only8
  have fo_N : OCEvent ((((((((w_5.setCell ⟨b_O, 6, none⟩ (.slice (some ⟨gN_4, 0, none⟩) zs.length cN_4)).setCell ⟨b_O, 7, none⟩ (.int .i64 s0)).setCell ⟨b_O, 8, none⟩ (.int .i64 s1)).setCell ⟨b_O, 9, none⟩ (.int .i64 s2)).setCell ⟨b_O, 10, none⟩ (.int .i64 s3)).setCell ⟨b_O, 11, none⟩ (.int .i64 s4)).setCell ⟨b_O, 12, none⟩ (.int .i64 s5)).setCell ⟨b_O, 13, none⟩ (.int .i64 (a11 + dm))) gN_4 (zs.length) cN_4 zs := OCEvent.far o_5_N k_5_O (by decide) only8
  have ii_6 : In w.heap.size w ((((((((w_5.setCell ⟨b_O, 6, none⟩ (.slice (some ⟨gN_4, 0, none⟩) zs.length cN_4)).setCell ⟨b_O, 7, none⟩ (.int .i64 s0)).setCell ⟨b_O, 8, none⟩ (.int .i64 s1)).setCell ⟨b_O, 9, none⟩ (.int .i64 s2)).setCell ⟨b_O, 10, none⟩ (.int .i64 s3)).setCell ⟨b_O, 11, none⟩ (.int .i64 s4)).setCell ⟨b_O, 12, none⟩ (.int .i64 s5)).setCell ⟨b_O, 13, none⟩ (.int .i64 (a11 + dm))) := (In.set_ (In.set_ (In.set_ (In.set_ (In.set_ (In.set_ (In.set_ (In.set_ i_5 (p := ⟨b_O, 6, none⟩) hwb_O (.slice (some ⟨gN_4, 0, none⟩) zs.length cN_4)) (p := ⟨b_O, 7, none⟩) hwb_O (.int .i64 s0)) (p := ⟨b_O, 8, none⟩) hwb_O (.int .i64 s1)) (p := ⟨b_O, 9, none⟩) hwb_O (.int .i64 s2)) (p := ⟨b_O, 10, none⟩) hwb_O (.int .i64 s3)) (p := ⟨b_O, 11, none⟩) hwb_O (.int .i64 s4)) (p := ⟨b_O, 12, none⟩) hwb_O (.int .i64 s5)) (p := ⟨b_O, 13, none⟩) hwb_O (.int .i64 (a11 + dm)))
  generalize ((((((((w_5.setCell ⟨b_O, 6, none⟩ (.slice (some ⟨gN_4, 0, none⟩) zs.length cN_4)).setCell ⟨b_O, 7, none⟩ (.int .i64 s0)).setCell ⟨b_O, 8, none⟩ (.int .i64 s1)).setCell ⟨b_O, 9, none⟩ (.int .i64 s2)).setCell ⟨b_O, 10, none⟩ (.int .i64 s3)).setCell ⟨b_O, 11, none⟩ (.int .i64 s4)).setCell ⟨b_O, 12, none⟩ (.int .i64 s5)).setCell ⟨b_O, 13, none⟩ (.int .i64 (a11 + dm))) = w_6 at *
  clear hn1_O_A hn2_O_A hn1_O_E hn2_O_E hn1_O_R hn2_O_R hn1_O_N hn2_O_N
  have i_6 : In w.heap.size w w_6 := ii_6
  have k_6_A : Blk w_6 b_A 45 #[.slice (some ⟨g, 0, none⟩) n c, .int .i64 a0, .int .i64 a1, .int .i64 a2, .int .i64 a3, .int .i64 a4, .slice (some ⟨h, 0, none⟩) m d, .int .i64 a5, .int .i64 a6, .int .i64 a7, .int .i64 a8, .int .i64 a9, .int .i64 a10, .int .i64 a11] := kf_A
  obtain ⟨c_6_A_0, c_6_A_1, c_6_A_2, c_6_A_3, c_6_A_4, c_6_A_5, c_6_A_6, c_6_A_7, c_6_A_8, c_6_A_9, c_6_A_10, c_6_A_11, c_6_A_12, c_6_A_13⟩ := cells14 k_6_A
  have l_6_A := k_6_A.lt
  have k_6_E : Blk w_6 b_E 78 #[.int .i64 k, .int .i64 l] := kf_E
  obtain ⟨c_6_E_0, c_6_E_1⟩ := cells2 k_6_E
  have l_6_E := k_6_E.lt
  have k_6_R : Blk w_6 b_R 45 #[.slice none 0 0, .int .i64 0, .int .i64 0, .int .i64 0, .int .i64 0, .int .i64 0, .slice none 0 0, .int .i64 0, .int .i64 0, .int .i64 0, .int .i64 0, .int .i64 0, .int .i64 0, .int .i64 0] := kf_R
  obtain ⟨c_6_R_0, c_6_R_1, c_6_R_2, c_6_R_3, c_6_R_4, c_6_R_5, c_6_R_6, c_6_R_7, c_6_R_8, c_6_R_9, c_6_R_10, c_6_R_11, c_6_R_12, c_6_R_13⟩ := cells14 k_6_R
  have l_6_R := k_6_R.lt
  have z_6_R := k_6_R.frozen
  have k_6_O : Blk w_6 b_O 45 #[.slice (some ⟨gS_1, 0, none⟩) n cS_1, .int .i64 a0, .int .i64 a1, .int .i64 a2, .int .i64 a3, .int .i64 a4, .slice (some ⟨gN_4, 0, none⟩) zs.length cN_4, .int .i64 s0, .int .i64 s1, .int .i64 s2, .int .i64 s3, .int .i64 s4, .int .i64 s5, .int .i64 (a11 + dm)] := kf_O
  obtain ⟨c_6_O_0, c_6_O_1, c_6_O_2, c_6_O_3, c_6_O_4, c_6_O_5, c_6_O_6, c_6_O_7, c_6_O_8, c_6_O_9, c_6_O_10, c_6_O_11, c_6_O_12, c_6_O_13⟩ := cells14 k_6_O
  have l_6_O := k_6_O.lt
  have z_6_O := k_6_O.frozen
  have k_6_N : Blk w_6 b_N 43 #[.slice (some ⟨gN_4, 0, none⟩) zs.length cN_4, .int .i64 s0, .int .i64 s1, .int .i64 s2, .int .i64 s3, .int .i64 s4, .int .i64 s5] := kf_N
  obtain ⟨c_6_N_0, c_6_N_1, c_6_N_2, c_6_N_3, c_6_N_4, c_6_N_5, c_6_N_6⟩ := cells7 k_6_N
  have l_6_N := k_6_N.lt
  have o_6_S : OwnC w_6 gS_1 (n) cS_1 xs := fo_S
  have o_6_Q : OCEvent w_6 gQ_1 (m) cQ_1 ys := fo_Q
  have o_6_N : OCEvent w_6 gN_4 (zs.length) cN_4 zs := fo_N
  clear i_5 k_5_A c_5_A_0 c_5_A_1 c_5_A_2 c_5_A_3 c_5_A_4 c_5_A_5 c_5_A_6 c_5_A_7 c_5_A_8 c_5_A_9 c_5_A_10 c_5_A_11 c_5_A_12 c_5_A_13 l_5_A k_5_E c_5_E_0 c_5_E_1 l_5_E k_5_R c_5_R_0 c_5_R_1 c_5_R_2 c_5_R_3 c_5_R_4 c_5_R_5 c_5_R_6 c_5_R_7 c_5_R_8 c_5_R_9 c_5_R_10 c_5_R_11 c_5_R_12 c_5_R_13 l_5_R z_5_R k_5_O c_5_O_0 c_5_O_1 c_5_O_2 c_5_O_3 c_5_O_4 c_5_O_5 c_5_O_6 c_5_O_7 c_5_O_8 c_5_O_9 c_5_O_10 c_5_O_11 c_5_O_12 c_5_O_13 l_5_O z_5_O k_5_N c_5_N_0 c_5_N_1 c_5_N_2 c_5_N_3 c_5_N_4 c_5_N_5 c_5_N_6 l_5_N o_5_S o_5_Q o_5_N hb_5
  clear ii_6 kf_A kf_E kf_R kf_O kf_N fo_S fo_Q fo_N
  skip
  refine (sBakeryOk gS_1 n cS_1 xs gN_4 zs.length cN_4 zs a0 a1 a2 a3 a4 s0 s1 s2 s3 s4 s5 (a11 + dm) _ hn (by omega) (OwnC.reads (by with_reducible (repeat (first | assumption | apply OwnC.drewN | apply OwnC.drew | apply OwnC.alloc)))) (OCEvent.reads (by with_reducible (repeat (first | assumption | apply OCEvent.drewN | apply OCEvent.drew | apply OCEvent.alloc))))).mono ?_
  rintro _ w_7 ⟨rfl, hb_7⟩
  rw [HYO.out (by simp)]
  have i_7 : In w.heap.size w w_7 := In.step (by (repeat (first | exact In.refl _ | assumption | apply In.alloc | apply In.drewN | apply In.drew | (refine In.step ?_ (by assumption))))) hb_7
  have k_7_A : Blk w_7 b_A 45 #[.slice (some ⟨g, 0, none⟩) n c, .int .i64 a0, .int .i64 a1, .int .i64 a2, .int .i64 a3, .int .i64 a4, .slice (some ⟨h, 0, none⟩) m d, .int .i64 a5, .int .i64 a6, .int .i64 a7, .int .i64 a8, .int .i64 a9, .int .i64 a10, .int .i64 a11] := Blk.step (by (with_reducible (repeat (first | assumption | exact Blk.new' (by simp) | apply Blk.drewN | apply Blk.drew | apply Blk.alloc | (refine Blk.far ?_ (by (try simp) <;> omega) _))))) hb_7
  obtain ⟨c_7_A_0, c_7_A_1, c_7_A_2, c_7_A_3, c_7_A_4, c_7_A_5, c_7_A_6, c_7_A_7, c_7_A_8, c_7_A_9, c_7_A_10, c_7_A_11, c_7_A_12, c_7_A_13⟩ := cells14 k_7_A
  have l_7_A := k_7_A.lt
  have k_7_E : Blk w_7 b_E 78 #[.int .i64 k, .int .i64 l] := Blk.step (by (with_reducible (repeat (first | assumption | exact Blk.new' (by simp) | apply Blk.drewN | apply Blk.drew | apply Blk.alloc | (refine Blk.far ?_ (by (try simp) <;> omega) _))))) hb_7
  obtain ⟨c_7_E_0, c_7_E_1⟩ := cells2 k_7_E
  have l_7_E := k_7_E.lt
  have k_7_R : Blk w_7 b_R 45 #[.slice none 0 0, .int .i64 0, .int .i64 0, .int .i64 0, .int .i64 0, .int .i64 0, .slice none 0 0, .int .i64 0, .int .i64 0, .int .i64 0, .int .i64 0, .int .i64 0, .int .i64 0, .int .i64 0] := Blk.step (by (with_reducible (repeat (first | assumption | exact Blk.new' (by simp) | apply Blk.drewN | apply Blk.drew | apply Blk.alloc | (refine Blk.far ?_ (by (try simp) <;> omega) _))))) hb_7
  obtain ⟨c_7_R_0, c_7_R_1, c_7_R_2, c_7_R_3, c_7_R_4, c_7_R_5, c_7_R_6, c_7_R_7, c_7_R_8, c_7_R_9, c_7_R_10, c_7_R_11, c_7_R_12, c_7_R_13⟩ := cells14 k_7_R
  have l_7_R := k_7_R.lt
  have z_7_R := k_7_R.frozen
  have k_7_O : Blk w_7 b_O 45 #[.slice (some ⟨gS_1, 0, none⟩) n cS_1, .int .i64 a0, .int .i64 a1, .int .i64 a2, .int .i64 a3, .int .i64 a4, .slice (some ⟨gN_4, 0, none⟩) zs.length cN_4, .int .i64 s0, .int .i64 s1, .int .i64 s2, .int .i64 s3, .int .i64 s4, .int .i64 s5, .int .i64 (a11 + dm)] := Blk.step (by (with_reducible (repeat (first | assumption | exact Blk.new' (by simp) | apply Blk.drewN | apply Blk.drew | apply Blk.alloc | (refine Blk.far ?_ (by (try simp) <;> omega) _))))) hb_7
  obtain ⟨c_7_O_0, c_7_O_1, c_7_O_2, c_7_O_3, c_7_O_4, c_7_O_5, c_7_O_6, c_7_O_7, c_7_O_8, c_7_O_9, c_7_O_10, c_7_O_11, c_7_O_12, c_7_O_13⟩ := cells14 k_7_O
  have l_7_O := k_7_O.lt
  have z_7_O := k_7_O.frozen
  have k_7_N : Blk w_7 b_N 43 #[.slice (some ⟨gN_4, 0, none⟩) zs.length cN_4, .int .i64 s0, .int .i64 s1, .int .i64 s2, .int .i64 s3, .int .i64 s4, .int .i64 s5] := Blk.step (by (with_reducible (repeat (first | assumption | exact Blk.new' (by simp) | apply Blk.drewN | apply Blk.drew | apply Blk.alloc | (refine Blk.far ?_ (by (try simp) <;> omega) _))))) hb_7
  obtain ⟨c_7_N_0, c_7_N_1, c_7_N_2, c_7_N_3, c_7_N_4, c_7_N_5, c_7_N_6⟩ := cells7 k_7_N
  have l_7_N := k_7_N.lt
  have o_7_S : OwnC w_7 gS_1 (n) cS_1 xs := OwnC.step (by with_reducible (repeat (first | assumption | apply OwnC.drewN | apply OwnC.drew | apply OwnC.alloc))) hb_7
  have o_7_Q : OCEvent w_7 gQ_1 (m) cQ_1 ys := OCEvent.step (by with_reducible (repeat (first | assumption | apply OCEvent.drewN | apply OCEvent.drew | apply OCEvent.alloc))) hb_7
  have o_7_N : OCEvent w_7 gN_4 (zs.length) cN_4 zs := OCEvent.step (by with_reducible (repeat (first | assumption | apply OCEvent.drewN | apply OCEvent.drew | apply OCEvent.alloc))) hb_7
  clear i_6 k_6_A c_6_A_0 c_6_A_1 c_6_A_2 c_6_A_3 c_6_A_4 c_6_A_5 c_6_A_6 c_6_A_7 c_6_A_8 c_6_A_9 c_6_A_10 c_6_A_11 c_6_A_12 c_6_A_13 l_6_A k_6_E c_6_E_0 c_6_E_1 l_6_E k_6_R c_6_R_0 c_6_R_1 c_6_R_2 c_6_R_3 c_6_R_4 c_6_R_5 c_6_R_6 c_6_R_7 c_6_R_8 c_6_R_9 c_6_R_10 c_6_R_11 c_6_R_12 c_6_R_13 l_6_R z_6_R k_6_O c_6_O_0 c_6_O_1 c_6_O_2 c_6_O_3 c_6_O_4 c_6_O_5 c_6_O_6 c_6_O_7 c_6_O_8 c_6_O_9 c_6_O_10 c_6_O_11 c_6_O_12 c_6_O_13 l_6_O z_6_O k_6_N c_6_N_0 c_6_N_1 c_6_N_2 c_6_N_3 c_6_N_4 c_6_N_5 c_6_N_6 l_6_N o_6_S o_6_Q o_6_N
  cases h2 : inB (a11 + dm) 0 1000000
  · have HV : Hid (yeB n xs m ys a0 a1 a2 a3 a4 a5 a6 a7 a8 a9 a10 a11 k l dm = false) := Lib.hid (by simp [yeB, h2])
    go_wp2_with fail
    refine (s38Copy g n c xs h m d ys a0 a1 a2 a3 a4 a5 a6 a7 a8 a9 a10 a11 _ hn (by omega) (HX.out.in_ (by (repeat (first | exact In.refl _ | assumption | apply In.alloc | apply In.drewN | apply In.drew | (refine In.step ?_ (by assumption)))))) (HY.out.in_ (by (repeat (first | exact In.refl _ | assumption | apply In.alloc | apply In.drewN | apply In.drew | (refine In.step ?_ (by assumption))))))).mono ?_
    rintro _ w_8 ⟨gC_8, cC_8, gD_8, cD_8, rfl, hoC_8, hgC_8, hoD_8, hgD_8, hb_8⟩
    have NE_S_C : Hid (gS_1 ≠ gC_8) := Lib.hid (by have h1 := hgC_8; (try simp at h1); have h2 := OwnC.lt o_7_S; omega)
    have NE_Q_C : Hid (gQ_1 ≠ gC_8) := Lib.hid (by have h1 := hgC_8; (try simp at h1); have h2 := OCEvent.lt o_7_Q; omega)
    have NE_N_C : Hid (gN_4 ≠ gC_8) := Lib.hid (by have h1 := hgC_8; (try simp at h1); have h2 := OCEvent.lt o_7_N; omega)
    have GX_C : Hid (w.heap.size ≤ gC_8) := Lib.hid (by have h1 := hgC_8; (try simp at h1); have h2 := In.size i_7; omega)
    have o_8_C : OwnC w_8 gC_8 (n) cC_8 xs := hoC_8
    clear hoC_8 hgC_8
    have NE_S_D : Hid (gS_1 ≠ gD_8) := Lib.hid (by have h1 := hgD_8; (try simp at h1); have h2 := OwnC.lt o_7_S; omega)
    have NE_Q_D : Hid (gQ_1 ≠ gD_8) := Lib.hid (by have h1 := hgD_8; (try simp at h1); have h2 := OCEvent.lt o_7_Q; omega)
    have NE_N_D : Hid (gN_4 ≠ gD_8) := Lib.hid (by have h1 := hgD_8; (try simp at h1); have h2 := OCEvent.lt o_7_N; omega)
    have NE_C_D : Hid (gC_8 ≠ gD_8) := Lib.hid (ne_OwnC_OCEvent o_8_C hoD_8)
    have GX_D : Hid (w.heap.size ≤ gD_8) := Lib.hid (by have h1 := hgD_8; (try simp at h1); have h2 := In.size i_7; omega)
    have o_8_D : OCEvent w_8 gD_8 (m) cD_8 ys := hoD_8
    clear hoD_8 hgD_8
    have i_8 : In w.heap.size w w_8 := In.step (by (repeat (first | exact In.refl _ | assumption | apply In.alloc | apply In.drewN | apply In.drew | (refine In.step ?_ (by assumption))))) hb_8
    have k_8_A : Blk w_8 b_A 45 #[.slice (some ⟨g, 0, none⟩) n c, .int .i64 a0, .int .i64 a1, .int .i64 a2, .int .i64 a3, .int .i64 a4, .slice (some ⟨h, 0, none⟩) m d, .int .i64 a5, .int .i64 a6, .int .i64 a7, .int .i64 a8, .int .i64 a9, .int .i64 a10, .int .i64 a11] := Blk.step (by (with_reducible (repeat (first | assumption | exact Blk.new' (by simp) | apply Blk.drewN | apply Blk.drew | apply Blk.alloc | (refine Blk.far ?_ (by (try simp) <;> omega) _))))) hb_8
    obtain ⟨c_8_A_0, c_8_A_1, c_8_A_2, c_8_A_3, c_8_A_4, c_8_A_5, c_8_A_6, c_8_A_7, c_8_A_8, c_8_A_9, c_8_A_10, c_8_A_11, c_8_A_12, c_8_A_13⟩ := cells14 k_8_A
    have l_8_A := k_8_A.lt
    have k_8_E : Blk w_8 b_E 78 #[.int .i64 k, .int .i64 l] := Blk.step (by (with_reducible (repeat (first | assumption | exact Blk.new' (by simp) | apply Blk.drewN | apply Blk.drew | apply Blk.alloc | (refine Blk.far ?_ (by (try simp) <;> omega) _))))) hb_8
    obtain ⟨c_8_E_0, c_8_E_1⟩ := cells2 k_8_E
    have l_8_E := k_8_E.lt
    have k_8_R : Blk w_8 b_R 45 #[.slice none 0 0, .int .i64 0, .int .i64 0, .int .i64 0, .int .i64 0, .int .i64 0, .slice none 0 0, .int .i64 0, .int .i64 0, .int .i64 0, .int .i64 0, .int .i64 0, .int .i64 0, .int .i64 0] := Blk.step (by (with_reducible (repeat (first | assumption | exact Blk.new' (by simp) | apply Blk.drewN | apply Blk.drew | apply Blk.alloc | (refine Blk.far ?_ (by (try simp) <;> omega) _))))) hb_8
    obtain ⟨c_8_R_0, c_8_R_1, c_8_R_2, c_8_R_3, c_8_R_4, c_8_R_5, c_8_R_6, c_8_R_7, c_8_R_8, c_8_R_9, c_8_R_10, c_8_R_11, c_8_R_12, c_8_R_13⟩ := cells14 k_8_R
    have l_8_R := k_8_R.lt
    have z_8_R := k_8_R.frozen
    have k_8_O : Blk w_8 b_O 45 #[.slice (some ⟨gS_1, 0, none⟩) n cS_1, .int .i64 a0, .int .i64 a1, .int .i64 a2, .int .i64 a3, .int .i64 a4, .slice (some ⟨gN_4, 0, none⟩) zs.length cN_4, .int .i64 s0, .int .i64 s1, .int .i64 s2, .int .i64 s3, .int .i64 s4, .int .i64 s5, .int .i64 (a11 + dm)] := Blk.step (by (with_reducible (repeat (first | assumption | exact Blk.new' (by simp) | apply Blk.drewN | apply Blk.drew | apply Blk.alloc | (refine Blk.far ?_ (by (try simp) <;> omega) _))))) hb_8
    obtain ⟨c_8_O_0, c_8_O_1, c_8_O_2, c_8_O_3, c_8_O_4, c_8_O_5, c_8_O_6, c_8_O_7, c_8_O_8, c_8_O_9, c_8_O_10, c_8_O_11, c_8_O_12, c_8_O_13⟩ := cells14 k_8_O
    have l_8_O := k_8_O.lt
    have z_8_O := k_8_O.frozen
    have k_8_N : Blk w_8 b_N 43 #[.slice (some ⟨gN_4, 0, none⟩) zs.length cN_4, .int .i64 s0, .int .i64 s1, .int .i64 s2, .int .i64 s3, .int .i64 s4, .int .i64 s5] := Blk.step (by (with_reducible (repeat (first | assumption | exact Blk.new' (by simp) | apply Blk.drewN | apply Blk.drew | apply Blk.alloc | (refine Blk.far ?_ (by (try simp) <;> omega) _))))) hb_8
    obtain ⟨c_8_N_0, c_8_N_1, c_8_N_2, c_8_N_3, c_8_N_4, c_8_N_5, c_8_N_6⟩ := cells7 k_8_N
    have l_8_N := k_8_N.lt
    have o_8_S : OwnC w_8 gS_1 (n) cS_1 xs := OwnC.step (by with_reducible (repeat (first | assumption | apply OwnC.drewN | apply OwnC.drew | apply OwnC.alloc))) hb_8
    have o_8_Q : OCEvent w_8 gQ_1 (m) cQ_1 ys := OCEvent.step (by with_reducible (repeat (first | assumption | apply OCEvent.drewN | apply OCEvent.drew | apply OCEvent.alloc))) hb_8
    have o_8_N : OCEvent w_8 gN_4 (zs.length) cN_4 zs := OCEvent.step (by with_reducible (repeat (first | assumption | apply OCEvent.drewN | apply OCEvent.drew | apply OCEvent.alloc))) hb_8
    clear i_7 k_7_A c_7_A_0 c_7_A_1 c_7_A_2 c_7_A_3 c_7_A_4 c_7_A_5 c_7_A_6 c_7_A_7 c_7_A_8 c_7_A_9 c_7_A_10 c_7_A_11 c_7_A_12 c_7_A_13 l_7_A k_7_E c_7_E_0 c_7_E_1 l_7_E k_7_R c_7_R_0 c_7_R_1 c_7_R_2 c_7_R_3 c_7_R_4 c_7_R_5 c_7_R_6 c_7_R_7 c_7_R_8 c_7_R_9 c_7_R_10 c_7_R_11 c_7_R_12 c_7_R_13 l_7_R z_7_R k_7_O c_7_O_0 c_7_O_1 c_7_O_2 c_7_O_3 c_7_O_4 c_7_O_5 c_7_O_6 c_7_O_7 c_7_O_8 c_7_O_9 c_7_O_10 c_7_O_11 c_7_O_12 c_7_O_13 l_7_O z_7_O k_7_N c_7_N_0 c_7_N_1 c_7_N_2 c_7_N_3 c_7_N_4 c_7_N_5 c_7_N_6 l_7_N o_7_S o_7_Q o_7_N hb_7
    have hn1_R_A : b_A ≠ b_R := by first | exact NB_A_R.out | exact NB_R_A.out.symm
    have hn2_R_A : b_R ≠ b_A := hn1_R_A.symm
    have hn1_R_E : b_E ≠ b_R := by first | exact NB_E_R.out | exact NB_R_E.out.symm
    have hn2_R_E : b_R ≠ b_E := hn1_R_E.symm
    have hn1_R_O : b_O ≠ b_R := by first | exact NB_O_R.out | exact NB_R_O.out.symm
    have hn2_R_O : b_R ≠ b_O := hn1_R_O.symm
    have hn1_R_N : b_N ≠ b_R := by first | exact NB_N_R.out | exact NB_R_N.out.symm
    have hn2_R_N : b_R ≠ b_N := hn1_R_N.symm
    have kk : Blk ((((((((((((((w_8.setCell ⟨b_R, 0, none⟩ (.slice (some ⟨gC_8, 0, none⟩) n cC_8)).setCell ⟨b_R, 1, none⟩ (.int .i64 a0)).setCell ⟨b_R, 2, none⟩ (.int .i64 a1)).setCell ⟨b_R, 3, none⟩ (.int .i64 a2)).setCell ⟨b_R, 4, none⟩ (.int .i64 a3)).setCell ⟨b_R, 5, none⟩ (.int .i64 a4)).setCell ⟨b_R, 6, none⟩ (.slice (some ⟨gD_8, 0, none⟩) m cD_8)).setCell ⟨b_R, 7, none⟩ (.int .i64 a5)).setCell ⟨b_R, 8, none⟩ (.int .i64 a6)).setCell ⟨b_R, 9, none⟩ (.int .i64 a7)).setCell ⟨b_R, 10, none⟩ (.int .i64 a8)).setCell ⟨b_R, 11, none⟩ (.int .i64 a9)).setCell ⟨b_R, 12, none⟩ (.int .i64 a10)).setCell ⟨b_R, 13, none⟩ (.int .i64 a11)) b_R 45 #[.slice (some ⟨gC_8, 0, none⟩) n cC_8, .int .i64 a0, .int .i64 a1, .int .i64 a2, .int .i64 a3, .int .i64 a4, .slice (some ⟨gD_8, 0, none⟩) m cD_8, .int .i64 a5, .int .i64 a6, .int .i64 a7, .int .i64 a8, .int .i64 a9, .int .i64 a10, .int .i64 a11] := blks14 k_8_R
    have i9 : In w.heap.size w ((((((((((((((w_8.setCell ⟨b_R, 0, none⟩ (.slice (some ⟨gC_8, 0, none⟩) n cC_8)).setCell ⟨b_R, 1, none⟩ (.int .i64 a0)).setCell ⟨b_R, 2, none⟩ (.int .i64 a1)).setCell ⟨b_R, 3, none⟩ (.int .i64 a2)).setCell ⟨b_R, 4, none⟩ (.int .i64 a3)).setCell ⟨b_R, 5, none⟩ (.int .i64 a4)).setCell ⟨b_R, 6, none⟩ (.slice (some ⟨gD_8, 0, none⟩) m cD_8)).setCell ⟨b_R, 7, none⟩ (.int .i64 a5)).setCell ⟨b_R, 8, none⟩ (.int .i64 a6)).setCell ⟨b_R, 9, none⟩ (.int .i64 a7)).setCell ⟨b_R, 10, none⟩ (.int .i64 a8)).setCell ⟨b_R, 11, none⟩ (.int .i64 a9)).setCell ⟨b_R, 12, none⟩ (.int .i64 a10)).setCell ⟨b_R, 13, none⟩ (.int .i64 a11)) := ins14 i_8 hwb_R
    have OS : Hid (OwnC ((((((((((((((w_8.setCell ⟨b_R, 0, none⟩ (.slice (some ⟨gC_8, 0, none⟩) n cC_8)).setCell ⟨b_R, 1, none⟩ (.int .i64 a0)).setCell ⟨b_R, 2, none⟩ (.int .i64 a1)).setCell ⟨b_R, 3, none⟩ (.int .i64 a2)).setCell ⟨b_R, 4, none⟩ (.int .i64 a3)).setCell ⟨b_R, 5, none⟩ (.int .i64 a4)).setCell ⟨b_R, 6, none⟩ (.slice (some ⟨gD_8, 0, none⟩) m cD_8)).setCell ⟨b_R, 7, none⟩ (.int .i64 a5)).setCell ⟨b_R, 8, none⟩ (.int .i64 a6)).setCell ⟨b_R, 9, none⟩ (.int .i64 a7)).setCell ⟨b_R, 10, none⟩ (.int .i64 a8)).setCell ⟨b_R, 11, none⟩ (.int .i64 a9)).setCell ⟨b_R, 12, none⟩ (.int .i64 a10)).setCell ⟨b_R, 13, none⟩ (.int .i64 a11)) gS_1 (n) cS_1 xs) := Lib.hid (OwnC.far o_8_S k_8_R (by decide) only14)
    have OQ : Hid (OCEvent ((((((((((((((w_8.setCell ⟨b_R, 0, none⟩ (.slice (some ⟨gC_8, 0, none⟩) n cC_8)).setCell ⟨b_R, 1, none⟩ (.int .i64 a0)).setCell ⟨b_R, 2, none⟩ (.int .i64 a1)).setCell ⟨b_R, 3, none⟩ (.int .i64 a2)).setCell ⟨b_R, 4, none⟩ (.int .i64 a3)).setCell ⟨b_R, 5, none⟩ (.int .i64 a4)).setCell ⟨b_R, 6, none⟩ (.slice (some ⟨gD_8, 0, none⟩) m cD_8)).setCell ⟨b_R, 7, none⟩ (.int .i64 a5)).setCell ⟨b_R, 8, none⟩ (.int .i64 a6)).setCell ⟨b_R, 9, none⟩ (.int .i64 a7)).setCell ⟨b_R, 10, none⟩ (.int .i64 a8)).setCell ⟨b_R, 11, none⟩ (.int .i64 a9)).setCell ⟨b_R, 12, none⟩ (.int .i64 a10)).setCell ⟨b_R, 13, none⟩ (.int .i64 a11)) gQ_1 (m) cQ_1 ys) := Lib.hid (OCEvent.far o_8_Q k_8_R (by decide) only14)
    have ON : Hid (OCEvent ((((((((((((((w_8.setCell ⟨b_R, 0, none⟩ (.slice (some ⟨gC_8, 0, none⟩) n cC_8)).setCell ⟨b_R, 1, none⟩ (.int .i64 a0)).setCell ⟨b_R, 2, none⟩ (.int .i64 a1)).setCell ⟨b_R, 3, none⟩ (.int .i64 a2)).setCell ⟨b_R, 4, none⟩ (.int .i64 a3)).setCell ⟨b_R, 5, none⟩ (.int .i64 a4)).setCell ⟨b_R, 6, none⟩ (.slice (some ⟨gD_8, 0, none⟩) m cD_8)).setCell ⟨b_R, 7, none⟩ (.int .i64 a5)).setCell ⟨b_R, 8, none⟩ (.int .i64 a6)).setCell ⟨b_R, 9, none⟩ (.int .i64 a7)).setCell ⟨b_R, 10, none⟩ (.int .i64 a8)).setCell ⟨b_R, 11, none⟩ (.int .i64 a9)).setCell ⟨b_R, 12, none⟩ (.int .i64 a10)).setCell ⟨b_R, 13, none⟩ (.int .i64 a11)) gN_4 (zs.length) cN_4 zs) := Lib.hid (OCEvent.far o_8_N k_8_R (by decide) only14)
    have OC : Hid (OwnC ((((((((((((((w_8.setCell ⟨b_R, 0, none⟩ (.slice (some ⟨gC_8, 0, none⟩) n cC_8)).setCell ⟨b_R, 1, none⟩ (.int .i64 a0)).setCell ⟨b_R, 2, none⟩ (.int .i64 a1)).setCell ⟨b_R, 3, none⟩ (.int .i64 a2)).setCell ⟨b_R, 4, none⟩ (.int .i64 a3)).setCell ⟨b_R, 5, none⟩ (.int .i64 a4)).setCell ⟨b_R, 6, none⟩ (.slice (some ⟨gD_8, 0, none⟩) m cD_8)).setCell ⟨b_R, 7, none⟩ (.int .i64 a5)).setCell ⟨b_R, 8, none⟩ (.int .i64 a6)).setCell ⟨b_R, 9, none⟩ (.int .i64 a7)).setCell ⟨b_R, 10, none⟩ (.int .i64 a8)).setCell ⟨b_R, 11, none⟩ (.int .i64 a9)).setCell ⟨b_R, 12, none⟩ (.int .i64 a10)).setCell ⟨b_R, 13, none⟩ (.int .i64 a11)) gC_8 (n) cC_8 xs) := Lib.hid (OwnC.far o_8_C k_8_R (by decide) only14)
    have OD : Hid (OCEvent ((((((((((((((w_8.setCell ⟨b_R, 0, none⟩ (.slice (some ⟨gC_8, 0, none⟩) n cC_8)).setCell ⟨b_R, 1, none⟩ (.int .i64 a0)).setCell ⟨b_R, 2, none⟩ (.int .i64 a1)).setCell ⟨b_R, 3, none⟩ (.int .i64 a2)).setCell ⟨b_R, 4, none⟩ (.int .i64 a3)).setCell ⟨b_R, 5, none⟩ (.int .i64 a4)).setCell ⟨b_R, 6, none⟩ (.slice (some ⟨gD_8, 0, none⟩) m cD_8)).setCell ⟨b_R, 7, none⟩ (.int .i64 a5)).setCell ⟨b_R, 8, none⟩ (.int .i64 a6)).setCell ⟨b_R, 9, none⟩ (.int .i64 a7)).setCell ⟨b_R, 10, none⟩ (.int .i64 a8)).setCell ⟨b_R, 11, none⟩ (.int .i64 a9)).setCell ⟨b_R, 12, none⟩ (.int .i64 a10)).setCell ⟨b_R, 13, none⟩ (.int .i64 a11)) gD_8 (m) cD_8 ys) := Lib.hid (OCEvent.far o_8_D k_8_R (by decide) only14)
    have HK0 : Hid ((_ : World).cell? ⟨b_R, 0, none⟩ = some (.slice (some ⟨gC_8, 0, none⟩) n cC_8)) := Lib.hid (kk.cell 0)
    have HK1 : Hid ((_ : World).cell? ⟨b_R, 1, none⟩ = some (.int .i64 a0)) := Lib.hid (kk.cell 1)
    have HK2 : Hid ((_ : World).cell? ⟨b_R, 2, none⟩ = some (.int .i64 a1)) := Lib.hid (kk.cell 2)
    have HK3 : Hid ((_ : World).cell? ⟨b_R, 3, none⟩ = some (.int .i64 a2)) := Lib.hid (kk.cell 3)
    have HK4 : Hid ((_ : World).cell? ⟨b_R, 4, none⟩ = some (.int .i64 a3)) := Lib.hid (kk.cell 4)
    have HK5 : Hid ((_ : World).cell? ⟨b_R, 5, none⟩ = some (.int .i64 a4)) := Lib.hid (kk.cell 5)
    have HK6 : Hid ((_ : World).cell? ⟨b_R, 6, none⟩ = some (.slice (some ⟨gD_8, 0, none⟩) m cD_8)) := Lib.hid (kk.cell 6)
    have HK7 : Hid ((_ : World).cell? ⟨b_R, 7, none⟩ = some (.int .i64 a5)) := Lib.hid (kk.cell 7)
    have HK8 : Hid ((_ : World).cell? ⟨b_R, 8, none⟩ = some (.int .i64 a6)) := Lib.hid (kk.cell 8)
    have HK9 : Hid ((_ : World).cell? ⟨b_R, 9, none⟩ = some (.int .i64 a7)) := Lib.hid (kk.cell 9)
    have HK10 : Hid ((_ : World).cell? ⟨b_R, 10, none⟩ = some (.int .i64 a8)) := Lib.hid (kk.cell 10)
    have HK11 : Hid ((_ : World).cell? ⟨b_R, 11, none⟩ = some (.int .i64 a9)) := Lib.hid (kk.cell 11)
    have HK12 : Hid ((_ : World).cell? ⟨b_R, 12, none⟩ = some (.int .i64 a10)) := Lib.hid (kk.cell 12)
    have HK13 : Hid ((_ : World).cell? ⟨b_R, 13, none⟩ = some (.int .i64 a11)) := Lib.hid (kk.cell 13)
    clear kk
    clear o_8_S o_8_Q o_8_N o_8_C o_8_D
    go_wp2
    have hk0 := HK0.out
    have hk1 := HK1.out
    have hk2 := HK2.out
    have hk3 := HK3.out
    have hk4 := HK4.out
    have hk5 := HK5.out
    have hk6 := HK6.out
    have hk7 := HK7.out
    have hk8 := HK8.out
    have hk9 := HK9.out
    have hk10 := HK10.out
    have hk11 := HK11.out
    have hk12 := HK12.out
    have hk13 := HK13.out
    exact bodyPost_ret (v := .tuple #[.agg #[.slice (some ⟨gC_8, 0, none⟩) n cC_8, .int .i64 a0, .int .i64 a1, .int .i64 a2, .int .i64 a3, .int .i64 a4, .slice (some ⟨gD_8, 0, none⟩) m cD_8, .int .i64 a5, .int .i64 a6, .int .i64 a7, .int .i64 a8, .int .i64 a9, .int .i64 a10, .int .i64 a11], .bool false]) (by simp [results, Try.results38, go_sem, hk0, hk1, hk2, hk3, hk4, hk5, hk6, hk7, hk8, hk9, hk10, hk11, hk12, hk13]) rfl (rowYV_of (by simp [yeL, HV.out]) (by simp [yeS, HV.out]) (by simp [yeS, HV.out]) (by simp [yeS, HV.out]) (by simp [yeS, HV.out]) (by simp [yeS, HV.out]) (by simp [yeS, HV.out]) (by simp [yeM, HV.out]) (by rw [HV.out]) OC.out GX_C.out OD.out GX_D.out i9.below)
  have HV : Hid (yeB n xs m ys a0 a1 a2 a3 a4 a5 a6 a7 a8 a9 a10 a11 k l dm = true) := Lib.hid (by simp [yeB, H1.out, HFL.out, h2])
  have hn1_R_A : b_A ≠ b_R := by first | exact NB_A_R.out | exact NB_R_A.out.symm
  have hn2_R_A : b_R ≠ b_A := hn1_R_A.symm
  have hn1_R_E : b_E ≠ b_R := by first | exact NB_E_R.out | exact NB_R_E.out.symm
  have hn2_R_E : b_R ≠ b_E := hn1_R_E.symm
  have hn1_R_O : b_O ≠ b_R := by first | exact NB_O_R.out | exact NB_R_O.out.symm
  have hn2_R_O : b_R ≠ b_O := hn1_R_O.symm
  have hn1_R_N : b_N ≠ b_R := by first | exact NB_N_R.out | exact NB_R_N.out.symm
  have hn2_R_N : b_R ≠ b_N := hn1_R_N.symm
  have kk : Blk ((((((((((((((w_7.setCell ⟨b_R, 0, none⟩ (.slice (some ⟨gS_1, 0, none⟩) n cS_1)).setCell ⟨b_R, 1, none⟩ (.int .i64 a0)).setCell ⟨b_R, 2, none⟩ (.int .i64 a1)).setCell ⟨b_R, 3, none⟩ (.int .i64 a2)).setCell ⟨b_R, 4, none⟩ (.int .i64 a3)).setCell ⟨b_R, 5, none⟩ (.int .i64 a4)).setCell ⟨b_R, 6, none⟩ (.slice (some ⟨gN_4, 0, none⟩) zs.length cN_4)).setCell ⟨b_R, 7, none⟩ (.int .i64 s0)).setCell ⟨b_R, 8, none⟩ (.int .i64 s1)).setCell ⟨b_R, 9, none⟩ (.int .i64 s2)).setCell ⟨b_R, 10, none⟩ (.int .i64 s3)).setCell ⟨b_R, 11, none⟩ (.int .i64 s4)).setCell ⟨b_R, 12, none⟩ (.int .i64 s5)).setCell ⟨b_R, 13, none⟩ (.int .i64 (a11 + dm))) b_R 45 #[.slice (some ⟨gS_1, 0, none⟩) n cS_1, .int .i64 a0, .int .i64 a1, .int .i64 a2, .int .i64 a3, .int .i64 a4, .slice (some ⟨gN_4, 0, none⟩) zs.length cN_4, .int .i64 s0, .int .i64 s1, .int .i64 s2, .int .i64 s3, .int .i64 s4, .int .i64 s5, .int .i64 (a11 + dm)] := blks14 k_7_R
  have i9 : In w.heap.size w ((((((((((((((w_7.setCell ⟨b_R, 0, none⟩ (.slice (some ⟨gS_1, 0, none⟩) n cS_1)).setCell ⟨b_R, 1, none⟩ (.int .i64 a0)).setCell ⟨b_R, 2, none⟩ (.int .i64 a1)).setCell ⟨b_R, 3, none⟩ (.int .i64 a2)).setCell ⟨b_R, 4, none⟩ (.int .i64 a3)).setCell ⟨b_R, 5, none⟩ (.int .i64 a4)).setCell ⟨b_R, 6, none⟩ (.slice (some ⟨gN_4, 0, none⟩) zs.length cN_4)).setCell ⟨b_R, 7, none⟩ (.int .i64 s0)).setCell ⟨b_R, 8, none⟩ (.int .i64 s1)).setCell ⟨b_R, 9, none⟩ (.int .i64 s2)).setCell ⟨b_R, 10, none⟩ (.int .i64 s3)).setCell ⟨b_R, 11, none⟩ (.int .i64 s4)).setCell ⟨b_R, 12, none⟩ (.int .i64 s5)).setCell ⟨b_R, 13, none⟩ (.int .i64 (a11 + dm))) := ins14 i_7 hwb_R
  have OS : Hid (OwnC ((((((((((((((w_7.setCell ⟨b_R, 0, none⟩ (.slice (some ⟨gS_1, 0, none⟩) n cS_1)).setCell ⟨b_R, 1, none⟩ (.int .i64 a0)).setCell ⟨b_R, 2, none⟩ (.int .i64 a1)).setCell ⟨b_R, 3, none⟩ (.int .i64 a2)).setCell ⟨b_R, 4, none⟩ (.int .i64 a3)).setCell ⟨b_R, 5, none⟩ (.int .i64 a4)).setCell ⟨b_R, 6, none⟩ (.slice (some ⟨gN_4, 0, none⟩) zs.length cN_4)).setCell ⟨b_R, 7, none⟩ (.int .i64 s0)).setCell ⟨b_R, 8, none⟩ (.int .i64 s1)).setCell ⟨b_R, 9, none⟩ (.int .i64 s2)).setCell ⟨b_R, 10, none⟩ (.int .i64 s3)).setCell ⟨b_R, 11, none⟩ (.int .i64 s4)).setCell ⟨b_R, 12, none⟩ (.int .i64 s5)).setCell ⟨b_R, 13, none⟩ (.int .i64 (a11 + dm))) gS_1 (n) cS_1 xs) := Lib.hid (OwnC.far o_7_S k_7_R (by decide) only14)
  have OQ : Hid (OCEvent ((((((((((((((w_7.setCell ⟨b_R, 0, none⟩ (.slice (some ⟨gS_1, 0, none⟩) n cS_1)).setCell ⟨b_R, 1, none⟩ (.int .i64 a0)).setCell ⟨b_R, 2, none⟩ (.int .i64 a1)).setCell ⟨b_R, 3, none⟩ (.int .i64 a2)).setCell ⟨b_R, 4, none⟩ (.int .i64 a3)).setCell ⟨b_R, 5, none⟩ (.int .i64 a4)).setCell ⟨b_R, 6, none⟩ (.slice (some ⟨gN_4, 0, none⟩) zs.length cN_4)).setCell ⟨b_R, 7, none⟩ (.int .i64 s0)).setCell ⟨b_R, 8, none⟩ (.int .i64 s1)).setCell ⟨b_R, 9, none⟩ (.int .i64 s2)).setCell ⟨b_R, 10, none⟩ (.int .i64 s3)).setCell ⟨b_R, 11, none⟩ (.int .i64 s4)).setCell ⟨b_R, 12, none⟩ (.int .i64 s5)).setCell ⟨b_R, 13, none⟩ (.int .i64 (a11 + dm))) gQ_1 (m) cQ_1 ys) := Lib.hid (OCEvent.far o_7_Q k_7_R (by decide) only14)
  have ON : Hid (OCEvent ((((((((((((((w_7.setCell ⟨b_R, 0, none⟩ (.slice (some ⟨gS_1, 0, none⟩) n cS_1)).setCell ⟨b_R, 1, none⟩ (.int .i64 a0)).setCell ⟨b_R, 2, none⟩ (.int .i64 a1)).setCell ⟨b_R, 3, none⟩ (.int .i64 a2)).setCell ⟨b_R, 4, none⟩ (.int .i64 a3)).setCell ⟨b_R, 5, none⟩ (.int .i64 a4)).setCell ⟨b_R, 6, none⟩ (.slice (some ⟨gN_4, 0, none⟩) zs.length cN_4)).setCell ⟨b_R, 7, none⟩ (.int .i64 s0)).setCell ⟨b_R, 8, none⟩ (.int .i64 s1)).setCell ⟨b_R, 9, none⟩ (.int .i64 s2)).setCell ⟨b_R, 10, none⟩ (.int .i64 s3)).setCell ⟨b_R, 11, none⟩ (.int .i64 s4)).setCell ⟨b_R, 12, none⟩ (.int .i64 s5)).setCell ⟨b_R, 13, none⟩ (.int .i64 (a11 + dm))) gN_4 (zs.length) cN_4 zs) := Lib.hid (OCEvent.far o_7_N k_7_R (by decide) only14)
  have HK0 : Hid ((_ : World).cell? ⟨b_R, 0, none⟩ = some (.slice (some ⟨gS_1, 0, none⟩) n cS_1)) := Lib.hid (kk.cell 0)
  have HK1 : Hid ((_ : World).cell? ⟨b_R, 1, none⟩ = some (.int .i64 a0)) := Lib.hid (kk.cell 1)
  have HK2 : Hid ((_ : World).cell? ⟨b_R, 2, none⟩ = some (.int .i64 a1)) := Lib.hid (kk.cell 2)
  have HK3 : Hid ((_ : World).cell? ⟨b_R, 3, none⟩ = some (.int .i64 a2)) := Lib.hid (kk.cell 3)
  have HK4 : Hid ((_ : World).cell? ⟨b_R, 4, none⟩ = some (.int .i64 a3)) := Lib.hid (kk.cell 4)
  have HK5 : Hid ((_ : World).cell? ⟨b_R, 5, none⟩ = some (.int .i64 a4)) := Lib.hid (kk.cell 5)
  have HK6 : Hid ((_ : World).cell? ⟨b_R, 6, none⟩ = some (.slice (some ⟨gN_4, 0, none⟩) zs.length cN_4)) := Lib.hid (kk.cell 6)
  have HK7 : Hid ((_ : World).cell? ⟨b_R, 7, none⟩ = some (.int .i64 s0)) := Lib.hid (kk.cell 7)
  have HK8 : Hid ((_ : World).cell? ⟨b_R, 8, none⟩ = some (.int .i64 s1)) := Lib.hid (kk.cell 8)
  have HK9 : Hid ((_ : World).cell? ⟨b_R, 9, none⟩ = some (.int .i64 s2)) := Lib.hid (kk.cell 9)
  have HK10 : Hid ((_ : World).cell? ⟨b_R, 10, none⟩ = some (.int .i64 s3)) := Lib.hid (kk.cell 10)
  have HK11 : Hid ((_ : World).cell? ⟨b_R, 11, none⟩ = some (.int .i64 s4)) := Lib.hid (kk.cell 11)
  have HK12 : Hid ((_ : World).cell? ⟨b_R, 12, none⟩ = some (.int .i64 s5)) := Lib.hid (kk.cell 12)
  have HK13 : Hid ((_ : World).cell? ⟨b_R, 13, none⟩ = some (.int .i64 (a11 + dm))) := Lib.hid (kk.cell 13)
  clear kk
  clear o_7_S o_7_Q o_7_N
  go_wp2
  have hk0 := HK0.out
  have hk1 := HK1.out
  have hk2 := HK2.out
  have hk3 := HK3.out
  have hk4 := HK4.out
  have hk5 := HK5.out
  have hk6 := HK6.out
  have hk7 := HK7.out
  have hk8 := HK8.out
  have hk9 := HK9.out
  have hk10 := HK10.out
  have hk11 := HK11.out
  have hk12 := HK12.out
  have hk13 := HK13.out
  exact bodyPost_ret (v := .tuple #[.agg #[.slice (some ⟨gS_1, 0, none⟩) n cS_1, .int .i64 a0, .int .i64 a1, .int .i64 a2, .int .i64 a3, .int .i64 a4, .slice (some ⟨gN_4, 0, none⟩) zs.length cN_4, .int .i64 s0, .int .i64 s1, .int .i64 s2, .int .i64 s3, .int .i64 s4, .int .i64 s5, .int .i64 (a11 + dm)], .bool true]) (by simp [results, Try.results38, go_sem, hk0, hk1, hk2, hk3, hk4, hk5, hk6, hk7, hk8, hk9, hk10, hk11, hk12, hk13]) rfl (rowYV_of (by simp [yeL, HV.out, HZS.out]) (by simp [yeS, HV.out, HS9.out]) (by simp [yeS, HV.out, HS9.out]) (by simp [yeS, HV.out, HS9.out]) (by simp [yeS, HV.out, HS9.out]) (by simp [yeS, HV.out, HS9.out]) (by simp [yeS, HV.out, HS9.out]) (by simp [yeM, HV.out]) (by rw [HV.out]) OS.out GX_S.out ON.out GX_N.out i9.below)
end Go.Proofs.Ytmcfghklfkmfkaa
