/- Chapter 38: copies of bakeries. -/
import Derived.Test.YtmcfghklfkmfkaaD38
import Derived.Test.YtmcfghklfkmfkaaJ37
import Derived.Test.YtmcfghklfkmfkaaWBakery
namespace Go.Proofs.Ytmcfghklfkmfkaa
open Go.ChangeShapes Go.WideShapes Go.ChangeAt Go.RowKit
set_option linter.unusedVariables false
set_option linter.unusedSimpArgs false
set_option maxHeartbeats 2000000

/-- a bakery of the call's own -/
def RowY (n : Nat) (xs : List Int) (m : Nat) (ys : List EventR) (a0 a1 a2 a3 a4 a5 a6 a7 a8 a9 a10 a11 : Int) (w : World) (e : Ending) (w' : World) : Prop :=
  ∃ g c h d, e = .returned (.agg #[.slice (some ⟨g, 0, none⟩) n c, .int .i64 a0, .int .i64 a1, .int .i64 a2, .int .i64 a3, .int .i64 a4, .slice (some ⟨h, 0, none⟩) m d, .int .i64 a5, .int .i64 a6, .int .i64 a7, .int .i64 a8, .int .i64 a9, .int .i64 a10, .int .i64 a11]) ∧ OwnC w' g n c xs ∧ w.heap.size ≤ g ∧ OCEvent w' h m d ys ∧ w.heap.size ≤ h ∧ Below w.heap.size w w'
def RowYV (n : Nat) (xs : List Int) (m : Nat) (ys : List EventR) (a0 a1 a2 a3 a4 a5 a6 a7 a8 a9 a10 a11 : Int) (v : Value) (w : World) (e : Ending) (w' : World) : Prop :=
  ∃ g c h d, e = .returned (.tuple #[.agg #[.slice (some ⟨g, 0, none⟩) n c, .int .i64 a0, .int .i64 a1, .int .i64 a2, .int .i64 a3, .int .i64 a4, .slice (some ⟨h, 0, none⟩) m d, .int .i64 a5, .int .i64 a6, .int .i64 a7, .int .i64 a8, .int .i64 a9, .int .i64 a10, .int .i64 a11], v]) ∧ OwnC w' g n c xs ∧ w.heap.size ≤ g ∧ OCEvent w' h m d ys ∧ w.heap.size ≤ h ∧ Below w.heap.size w w'
theorem sCopySt (ga n c : Nat) (xs : List Int) (w : World) (hn : n ≤ 10000000) (hx : ReadsI w (some ⟨ga, 0, none⟩) n xs) : Calls Try.prog 78 #[.agg #[.slice (some ⟨ga, 0, none⟩) n c]] w (fun e w' => ∃ g c, e = .returned (.agg #[.slice (some ⟨g, 0, none⟩) n c]) ∧ OwnC w' g n c xs ∧ w.heap.size ≤ g ∧ Below w.heap.size w w') := by
  have hl := hx.1
  refine (s36Copy ⟨ga, 0, none⟩ n c xs w hn hx).mono ?_
  rintro e w' ⟨g, c2, he, ho, hg, hb⟩
  rw [hl] at he ho
  exact ⟨g, c2, he, ho, hg, hb⟩
theorem iCopySt (ga n c : Nat) (xs : List Int) (w : World) (hn : n ≤ 10000000) (hx : ReadsI w (some ⟨ga, 0, none⟩) n xs) : Calls Try.prog 84 #[.agg #[.slice (some ⟨ga, 0, none⟩) n c]] w (fun e w' => ∃ g c, e = .returned (.agg #[.slice (some ⟨g, 0, none⟩) n c]) ∧ OwnC w' g n c xs ∧ w.heap.size ≤ g ∧ Below w.heap.size w w') := by
  have hl := hx.1
  refine (icopied ⟨ga, 0, none⟩ n c xs w hn hx).mono ?_
  rintro e w' ⟨g, c2, he, ho, hg, hb⟩
  rw [hl] at he ho
  exact ⟨g, c2, he, ho, hg, hb⟩
def JICpS (w0 : World) (g : Nat) (n : Nat) (c : Nat) (h : Nat) (m : Nat) (d : Nat) (b_A : Nat) (b_R : Nat) (a0 : Int) (a1 : Int) (a2 : Int) (a3 : Int) (a4 : Int) (a5 : Int) (a6 : Int) (a7 : Int) (a8 : Int) (a9 : Int) (a10 : Int) (a11 : Int) (xs : List Int) (ys : List EventR) (a : Act) (w : World) : Prop := (∃ f : Nat → Value, a = ⟨#[Value.agg #[Value.slice (some { block := g, off := 0 }) n c, Value.int IntKind.i64 a0, Value.int IntKind.i64 a1, Value.int IntKind.i64 a2, Value.int IntKind.i64 a3, Value.int IntKind.i64 a4, Value.slice (some { block := h, off := 0 }) m d, Value.int IntKind.i64 a5, Value.int IntKind.i64 a6, Value.int IntKind.i64 a7, Value.int IntKind.i64 a8, Value.int IntKind.i64 a9, Value.int IntKind.i64 a10, Value.int IntKind.i64 a11], Value.pointer (some { block := b_A, off := 0 }), Value.pointer (some { block := b_R, off := 0 }), f 3, f 4, f 5, f 6, f 7, f 8, f 9, f 10, f 11, f 12, f 13, f 14, f 15], []⟩) ∧ In w0.heap.size w0 w ∧ (∃ Y0 Y1 Y2 Y3 Y4 Y5 Y6 Y7 Y8 Y9 Y10 Y11 Y12 Y13, Blk w b_R 45 #[Y0, Y1, Y2, Y3, Y4, Y5, Y6, Y7, Y8, Y9, Y10, Y11, Y12, Y13]) ∧ Blk w b_A 45 #[.slice (some ⟨g, 0, none⟩) n c, .int .i64 a0, .int .i64 a1, .int .i64 a2, .int .i64 a3, .int .i64 a4, .slice (some ⟨h, 0, none⟩) m d, .int .i64 a5, .int .i64 a6, .int .i64 a7, .int .i64 a8, .int .i64 a9, .int .i64 a10, .int .i64 a11]
def JFCpS (B : Nat) (g : Nat) (n : Nat) (c : Nat) (h : Nat) (m : Nat) (d : Nat) (b_A : Nat) (b_R : Nat) (a0 : Int) (a1 : Int) (a2 : Int) (a3 : Int) (a4 : Int) (a5 : Int) (a6 : Int) (a7 : Int) (a8 : Int) (a9 : Int) (a10 : Int) (a11 : Int) (xs : List Int) (ys : List EventR) : Nat → Act → World → Prop
  | 0, a, w => a.tmps[3]? = some (.pointer (some ⟨b_A, 0, none⟩))
  | 1, a, w => a.tmps[4]? = some (.agg #[.slice (some ⟨g, 0, none⟩) n c])
  | 2, a, w => ∃ (g0 c0 : Nat), a.tmps[5]? = some (.agg #[.slice (some ⟨g0, 0, none⟩) n c0]) ∧ B ≤ g0 ∧ OwnC w g0 n c0 xs
  | 3, a, w => a.tmps[6]? = some (.pointer (some ⟨b_A, 1, none⟩))
  | 4, a, w => a.tmps[7]? = some (.agg #[.int .i64 a0, .int .i64 a1, .int .i64 a2])
  | 5, a, w => a.tmps[8]? = some (.pointer (some ⟨b_A, 4, none⟩))
  | 6, a, w => a.tmps[9]? = some (.agg #[.int .i64 a3, .int .i64 a4])
  | 7, a, w => a.tmps[10]? = some (.pointer (some ⟨b_A, 6, none⟩))
  | 8, a, w => a.tmps[11]? = some (.agg #[.slice (some ⟨h, 0, none⟩) m d, .int .i64 a5, .int .i64 a6, .int .i64 a7, .int .i64 a8, .int .i64 a9, .int .i64 a10])
  | 9, a, w => ∃ (g0 c0 : Nat), a.tmps[12]? = some (.agg #[.slice (some ⟨g0, 0, none⟩) m c0, .int .i64 a5, .int .i64 a6, .int .i64 a7, .int .i64 a8, .int .i64 a9, .int .i64 a10]) ∧ B ≤ g0 ∧ OCEvent w g0 m c0 ys
  | 10, a, w => a.tmps[13]? = some (.pointer (some ⟨b_A, 13, none⟩))
  | 11, a, w => a.tmps[14]? = some (.int .i64 a11)
  | 12, a, w => ∃ (g0 c0 g1 c1 : Nat), a.tmps[15]? = some (.agg #[.slice (some ⟨g0, 0, none⟩) n c0, .int .i64 a0, .int .i64 a1, .int .i64 a2, .int .i64 a3, .int .i64 a4, .slice (some ⟨g1, 0, none⟩) m c1, .int .i64 a5, .int .i64 a6, .int .i64 a7, .int .i64 a8, .int .i64 a9, .int .i64 a10, .int .i64 a11]) ∧ B ≤ g0 ∧ OwnC w g0 n c0 xs ∧ B ≤ g1 ∧ OCEvent w g1 m c1 ys
  | 13, a, w => ∃ (g0 c0 g1 c1 : Nat), Blk w b_R 45 #[.slice (some ⟨g0, 0, none⟩) n c0, .int .i64 a0, .int .i64 a1, .int .i64 a2, .int .i64 a3, .int .i64 a4, .slice (some ⟨g1, 0, none⟩) m c1, .int .i64 a5, .int .i64 a6, .int .i64 a7, .int .i64 a8, .int .i64 a9, .int .i64 a10, .int .i64 a11] ∧ B ≤ g0 ∧ OwnC w g0 n c0 xs ∧ B ≤ g1 ∧ OCEvent w g1 m c1 ys
  | _, _, _ => True
theorem s38Copy (g n c : Nat) (xs : List Int) (h m d : Nat) (ys : List EventR) (a0 a1 a2 a3 a4 a5 a6 a7 a8 a9 a10 a11 : Int) (w : World) (hn : (n : Int) ≤ 1048576) (hm : (m : Int) ≤ 1048577) (hx : ReadsI w (some ⟨g, 0, none⟩) n xs) (hy : ReadsEvent w (some ⟨h, 0, none⟩) m ys) : Calls Try.prog 50 #[.agg #[.slice (some ⟨g, 0, none⟩) n c, .int .i64 a0, .int .i64 a1, .int .i64 a2, .int .i64 a3, .int .i64 a4, .slice (some ⟨h, 0, none⟩) m d, .int .i64 a5, .int .i64 a6, .int .i64 a7, .int .i64 a8, .int .i64 a9, .int .i64 a10, .int .i64 a11]] w (RowY n xs m ys a0 a1 a2 a3 a4 a5 a6 a7 a8 a9 a10 a11 w) := by
  have HX := Lib.hid hx
  have HY := Lib.hid hy
  clear hx hy
  obtain ⟨b_A, hbx_A⟩ : ∃ b, b = w.heap.size := ⟨_, rfl⟩
  have kk_A : Blk ((w.alloc (.cells #[.slice (some ⟨g, 0, none⟩) n c, .int .i64 a0, .int .i64 a1, .int .i64 a2, .int .i64 a3, .int .i64 a4, .slice (some ⟨h, 0, none⟩) m d, .int .i64 a5, .int .i64 a6, .int .i64 a7, .int .i64 a8, .int .i64 a9, .int .i64 a10, .int .i64 a11] 45)).alloc (.cells #[.slice none 0 0, .int .i64 0, .int .i64 0, .int .i64 0, .int .i64 0, .int .i64 0, .slice none 0 0, .int .i64 0, .int .i64 0, .int .i64 0, .int .i64 0, .int .i64 0, .int .i64 0, .int .i64 0] 45)) b_A 45 #[.slice (some ⟨g, 0, none⟩) n c, .int .i64 a0, .int .i64 a1, .int .i64 a2, .int .i64 a3, .int .i64 a4, .slice (some ⟨h, 0, none⟩) m d, .int .i64 a5, .int .i64 a6, .int .i64 a7, .int .i64 a8, .int .i64 a9, .int .i64 a10, .int .i64 a11] := ((Blk.new' (w := w) (t := 45) (cs := #[.slice (some ⟨g, 0, none⟩) n c, .int .i64 a0, .int .i64 a1, .int .i64 a2, .int .i64 a3, .int .i64 a4, .slice (some ⟨h, 0, none⟩) m d, .int .i64 a5, .int .i64 a6, .int .i64 a7, .int .i64 a8, .int .i64 a9, .int .i64 a10, .int .i64 a11]) (g := b_A) (by simp [hbx_A])).alloc (.cells #[.slice none 0 0, .int .i64 0, .int .i64 0, .int .i64 0, .int .i64 0, .int .i64 0, .slice none 0 0, .int .i64 0, .int .i64 0, .int .i64 0, .int .i64 0, .int .i64 0, .int .i64 0, .int .i64 0] 45))
  have hwb_A : w.heap.size ≤ b_A := by omega
  obtain ⟨b_R, hbx_R⟩ : ∃ b, b = w.heap.size + 1 := ⟨_, rfl⟩
  have kk_R : Blk ((w.alloc (.cells #[.slice (some ⟨g, 0, none⟩) n c, .int .i64 a0, .int .i64 a1, .int .i64 a2, .int .i64 a3, .int .i64 a4, .slice (some ⟨h, 0, none⟩) m d, .int .i64 a5, .int .i64 a6, .int .i64 a7, .int .i64 a8, .int .i64 a9, .int .i64 a10, .int .i64 a11] 45)).alloc (.cells #[.slice none 0 0, .int .i64 0, .int .i64 0, .int .i64 0, .int .i64 0, .int .i64 0, .slice none 0 0, .int .i64 0, .int .i64 0, .int .i64 0, .int .i64 0, .int .i64 0, .int .i64 0, .int .i64 0] 45)) b_R 45 #[.slice none 0 0, .int .i64 0, .int .i64 0, .int .i64 0, .int .i64 0, .int .i64 0, .slice none 0 0, .int .i64 0, .int .i64 0, .int .i64 0, .int .i64 0, .int .i64 0, .int .i64 0, .int .i64 0] := (Blk.new' (w := (w.alloc (.cells #[.slice (some ⟨g, 0, none⟩) n c, .int .i64 a0, .int .i64 a1, .int .i64 a2, .int .i64 a3, .int .i64 a4, .slice (some ⟨h, 0, none⟩) m d, .int .i64 a5, .int .i64 a6, .int .i64 a7, .int .i64 a8, .int .i64 a9, .int .i64 a10, .int .i64 a11] 45))) (t := 45) (cs := #[.slice none 0 0, .int .i64 0, .int .i64 0, .int .i64 0, .int .i64 0, .int .i64 0, .slice none 0 0, .int .i64 0, .int .i64 0, .int .i64 0, .int .i64 0, .int .i64 0, .int .i64 0, .int .i64 0]) (g := b_R) (by simp [hbx_R]))
  have hwb_R : w.heap.size ≤ b_R := by omega
  have NB_A_R : Hid (b_A ≠ b_R) := Lib.hid (by omega)
  have hb_0 : Below w.heap.size w ((w.alloc (.cells #[.slice (some ⟨g, 0, none⟩) n c, .int .i64 a0, .int .i64 a1, .int .i64 a2, .int .i64 a3, .int .i64 a4, .slice (some ⟨h, 0, none⟩) m d, .int .i64 a5, .int .i64 a6, .int .i64 a7, .int .i64 a8, .int .i64 a9, .int .i64 a10, .int .i64 a11] 45)).alloc (.cells #[.slice none 0 0, .int .i64 0, .int .i64 0, .int .i64 0, .int .i64 0, .int .i64 0, .slice none 0 0, .int .i64 0, .int .i64 0, .int .i64 0, .int .i64 0, .int .i64 0, .int .i64 0, .int .i64 0] 45)) := by
    have h : In w.heap.size w ((w.alloc (.cells #[.slice (some ⟨g, 0, none⟩) n c, .int .i64 a0, .int .i64 a1, .int .i64 a2, .int .i64 a3, .int .i64 a4, .slice (some ⟨h, 0, none⟩) m d, .int .i64 a5, .int .i64 a6, .int .i64 a7, .int .i64 a8, .int .i64 a9, .int .i64 a10, .int .i64 a11] 45)).alloc (.cells #[.slice none 0 0, .int .i64 0, .int .i64 0, .int .i64 0, .int .i64 0, .int .i64 0, .slice none 0 0, .int .i64 0, .int .i64 0, .int .i64 0, .int .i64 0, .int .i64 0, .int .i64 0, .int .i64 0] 45)) := by (repeat (first | exact In.refl _ | assumption | apply In.alloc | apply In.drewN | apply In.drew | (refine In.step ?_ (by assumption))))
    exact h.below
  have hsz_0 : ((w.alloc (.cells #[.slice (some ⟨g, 0, none⟩) n c, .int .i64 a0, .int .i64 a1, .int .i64 a2, .int .i64 a3, .int .i64 a4, .slice (some ⟨h, 0, none⟩) m d, .int .i64 a5, .int .i64 a6, .int .i64 a7, .int .i64 a8, .int .i64 a9, .int .i64 a10, .int .i64 a11] 45)).alloc (.cells #[.slice none 0 0, .int .i64 0, .int .i64 0, .int .i64 0, .int .i64 0, .int .i64 0, .slice none 0 0, .int .i64 0, .int .i64 0, .int .i64 0, .int .i64 0, .int .i64 0, .int .i64 0, .int .i64 0] 45)).heap.size = b_R + 1 := by simp [hbx_R]
  go_enter Try.func50, Try.ntmps50
  go_wp2_with fail
  rw [← hbx_R]
  clear hbx_R
  rw [← hbx_A]
  clear hbx_A
  generalize ((w.alloc (.cells #[.slice (some ⟨g, 0, none⟩) n c, .int .i64 a0, .int .i64 a1, .int .i64 a2, .int .i64 a3, .int .i64 a4, .slice (some ⟨h, 0, none⟩) m d, .int .i64 a5, .int .i64 a6, .int .i64 a7, .int .i64 a8, .int .i64 a9, .int .i64 a10, .int .i64 a11] 45)).alloc (.cells #[.slice none 0 0, .int .i64 0, .int .i64 0, .int .i64 0, .int .i64 0, .int .i64 0, .slice none 0 0, .int .i64 0, .int .i64 0, .int .i64 0, .int .i64 0, .int .i64 0, .int .i64 0, .int .i64 0] 45)) = w_0 at *
  have i_0 : In w.heap.size w w_0 := In.step (by (repeat (first | exact In.refl _ | assumption | apply In.alloc | apply In.drewN | apply In.drew | (refine In.step ?_ (by assumption))))) hb_0
  have k_0_A : Blk w_0 b_A 45 #[.slice (some ⟨g, 0, none⟩) n c, .int .i64 a0, .int .i64 a1, .int .i64 a2, .int .i64 a3, .int .i64 a4, .slice (some ⟨h, 0, none⟩) m d, .int .i64 a5, .int .i64 a6, .int .i64 a7, .int .i64 a8, .int .i64 a9, .int .i64 a10, .int .i64 a11] := kk_A
  obtain ⟨c_0_A_0, c_0_A_1, c_0_A_2, c_0_A_3, c_0_A_4, c_0_A_5, c_0_A_6, c_0_A_7, c_0_A_8, c_0_A_9, c_0_A_10, c_0_A_11, c_0_A_12, c_0_A_13⟩ := cells14 k_0_A
  have l_0_A := k_0_A.lt
  have z_0_A := k_0_A.frozen
  have k_0_R : Blk w_0 b_R 45 #[.slice none 0 0, .int .i64 0, .int .i64 0, .int .i64 0, .int .i64 0, .int .i64 0, .slice none 0 0, .int .i64 0, .int .i64 0, .int .i64 0, .int .i64 0, .int .i64 0, .int .i64 0, .int .i64 0] := kk_R
  obtain ⟨c_0_R_0, c_0_R_1, c_0_R_2, c_0_R_3, c_0_R_4, c_0_R_5, c_0_R_6, c_0_R_7, c_0_R_8, c_0_R_9, c_0_R_10, c_0_R_11, c_0_R_12, c_0_R_13⟩ := cells14 k_0_R
  have l_0_R := k_0_R.lt
  have z_0_R := k_0_R.frozen
  clear kk_A kk_R
  go_wp2_with fail
  obtain ⟨B_0, hB_0⟩ : ∃ B, B = w.heap.size := ⟨_, rfl⟩
  have hBl_0 : B_0 ≤ w.heap.size := by omega
  have hBg_0 : w.heap.size ≤ B_0 := by omega
  clear hB_0
  refine wp_region_facts2 (JICpS w g n c h m d b_A b_R a0 a1 a2 a3 a4 a5 a6 a7 a8 a9 a10 a11 xs ys) (JFCpS B_0 g n c h m d b_A b_R a0 a1 a2 a3 a4 a5 a6 a7 a8 a9 a10 a11 xs ys) (fun j => j == 13) (fun k j => (k == 1 && (j == 0)) || (k == 2 && (j == 1)) || (k == 4 && (j == 3)) || (k == 6 && (j == 5)) || (k == 8 && (j == 7)) || (k == 9 && (j == 8)) || (k == 11 && (j == 10)) || (k == 12 && (j == 2 || j == 4 || j == 6 || j == 9 || j == 11)) || (k == 13 && (j == 12))) (by kernel_rfl) (by kernel_rfl) ⟨⟨fun j => undef, rfl⟩, i_0.drew, ⟨_, _, _, _, _, _, _, _, _, _, _, _, _, _, Blk.drew k_0_R⟩, Blk.drew k_0_A⟩ ?_ ?_
  · intro a v1 i o ho hI haf
    obtain ⟨⟨f, rfl⟩, hin, ⟨Y0, Y1, Y2, Y3, Y4, Y5, Y6, Y7, Y8, Y9, Y10, Y11, Y12, Y13, kpW⟩, kp0⟩ := hI
    have cv_A_0 := kp0.cell 0
    have cv_A_1 := kp0.cell 1
    have cv_A_2 := kp0.cell 2
    have cv_A_3 := kp0.cell 3
    have cv_A_4 := kp0.cell 4
    have cv_A_5 := kp0.cell 5
    have cv_A_6 := kp0.cell 6
    have cv_A_7 := kp0.cell 7
    have cv_A_8 := kp0.cell 8
    have cv_A_9 := kp0.cell 9
    have cv_A_10 := kp0.cell 10
    have cv_A_11 := kp0.cell 11
    have cv_A_12 := kp0.cell 12
    have cv_A_13 := kp0.cell 13
    have hi : i < 14 := by
      rcases Nat.lt_or_ge i 14 with h | h
      · exact h
      · simp [h] at ho
    suffices H : ∀ K : Act → World → Prop, (∀ a' w', ((JICpS w g n c h m d b_A b_R a0 a1 a2 a3 a4 a5 a6 a7 a8 a9 a10 a11 xs ys) a' w' ∧ (JFCpS B_0 g n c h m d b_A b_R a0 a1 a2 a3 a4 a5 a6 a7 a8 a9 a10 a11 xs ys) i a' w' ∧ ∀ j, j ≠ i → waitsT _ 6 j i = false → ((fun j => j == 13) j || usesB _ (fun k j => (k == 1 && (j == 0)) || (k == 2 && (j == 1)) || (k == 4 && (j == 3)) || (k == 6 && (j == 5)) || (k == 8 && (j == 7)) || (k == 9 && (j == 8)) || (k == 11 && (j == 10)) || (k == 12 && (j == 2 || j == 4 || j == 6 || j == 9 || j == 11)) || (k == 13 && (j == 12))) i j) = true → (JFCpS B_0 g n c h m d b_A b_R a0 a1 a2 a3 a4 a5 a6 a7 a8 a9 a10 a11 xs ys) j ⟨#[Value.agg #[Value.slice (some { block := g, off := 0 }) n c, Value.int IntKind.i64 a0, Value.int IntKind.i64 a1, Value.int IntKind.i64 a2, Value.int IntKind.i64 a3, Value.int IntKind.i64 a4, Value.slice (some { block := h, off := 0 }) m d, Value.int IntKind.i64 a5, Value.int IntKind.i64 a6, Value.int IntKind.i64 a7, Value.int IntKind.i64 a8, Value.int IntKind.i64 a9, Value.int IntKind.i64 a10, Value.int IntKind.i64 a11], Value.pointer (some { block := b_A, off := 0 }), Value.pointer (some { block := b_R, off := 0 }), f 3, f 4, f 5, f 6, f 7, f 8, f 9, f 10, f 11, f 12, f 13, f 14, f 15], []⟩ v1 → (JFCpS B_0 g n c h m d b_A b_R a0 a1 a2 a3 a4 a5 a6 a7 a8 a9 a10 a11 xs ys) j a' w') → K a' w') → wpOp _ _ _ i K ⟨#[Value.agg #[Value.slice (some { block := g, off := 0 }) n c, Value.int IntKind.i64 a0, Value.int IntKind.i64 a1, Value.int IntKind.i64 a2, Value.int IntKind.i64 a3, Value.int IntKind.i64 a4, Value.slice (some { block := h, off := 0 }) m d, Value.int IntKind.i64 a5, Value.int IntKind.i64 a6, Value.int IntKind.i64 a7, Value.int IntKind.i64 a8, Value.int IntKind.i64 a9, Value.int IntKind.i64 a10, Value.int IntKind.i64 a11], Value.pointer (some { block := b_A, off := 0 }), Value.pointer (some { block := b_R, off := 0 }), f 3, f 4, f 5, f 6, f 7, f 8, f 9, f 10, f 11, f 12, f 13, f 14, f 15], []⟩ v1 from H _ fun _ _ h => h
    intro K hK
    rcases (by omega : i = 0 ∨ i = 1 ∨ i = 2 ∨ i = 3 ∨ i = 4 ∨ i = 5 ∨ i = 6 ∨ i = 7 ∨ i = 8 ∨ i = 9 ∨ i = 10 ∨ i = 11 ∨ i = 12 ∨ i = 13) with rfl | rfl | rfl | rfl | rfl | rfl | rfl | rfl | rfl | rfl | rfl | rfl | rfl | rfl
    · obtain rfl := Option.some.inj ho
      refine wpOp_plain rfl rfl ?_
      unfold Oper.wp
      go_simp
      exact hK _ _ ⟨⟨⟨updf f 3 (.pointer (some ⟨b_A, 0, none⟩)), rfl⟩, hin, ⟨Y0, Y1, Y2, Y3, Y4, Y5, Y6, Y7, Y8, Y9, Y10, Y11, Y12, Y13, kpW⟩, kp0⟩, rfl, fun j hj hw hu hf => by
          rcases j with _ | _ | _ | _ | _ | _ | _ | _ | _ | _ | _ | _ | _ | _ | j
          · exact absurd rfl hj
          · first | (have h9 : _ = _ := hf; exact h9) | rfl
          · exact hf
          · first | (have h9 : _ = _ := hf; exact h9) | rfl
          · first | (have h9 : _ = _ := hf; exact h9) | rfl
          · first | (have h9 : _ = _ := hf; exact h9) | rfl
          · first | (have h9 : _ = _ := hf; exact h9) | rfl
          · first | (have h9 : _ = _ := hf; exact h9) | rfl
          · first | (have h9 : _ = _ := hf; exact h9) | rfl
          · exact hf
          · first | (have h9 : _ = _ := hf; exact h9) | rfl
          · first | (have h9 : _ = _ := hf; exact h9) | rfl
          · exact hf
          · exact hf
          · exact trivial⟩
    · obtain rfl := Option.some.inj ho
      have f0 := haf { on := 0, ground := .data } (by simp) rfl rfl
      have f0 : _ = _ := Option.some.inj f0
      refine wpOp_plain rfl rfl ?_
      unfold Oper.wp
      go_simp
      exact hK _ _ ⟨⟨⟨updf f 4 (.agg #[.slice (some ⟨g, 0, none⟩) n c]), rfl⟩, hin, ⟨Y0, Y1, Y2, Y3, Y4, Y5, Y6, Y7, Y8, Y9, Y10, Y11, Y12, Y13, kpW⟩, kp0⟩, rfl, fun j hj hw hu hf => by
          rcases j with _ | _ | _ | _ | _ | _ | _ | _ | _ | _ | _ | _ | _ | _ | j
          · first | (have h9 : _ = _ := hf; exact h9) | rfl
          · exact absurd rfl hj
          · exact hf
          · first | (have h9 : _ = _ := hf; exact h9) | rfl
          · first | (have h9 : _ = _ := hf; exact h9) | rfl
          · first | (have h9 : _ = _ := hf; exact h9) | rfl
          · first | (have h9 : _ = _ := hf; exact h9) | rfl
          · first | (have h9 : _ = _ := hf; exact h9) | rfl
          · first | (have h9 : _ = _ := hf; exact h9) | rfl
          · exact hf
          · first | (have h9 : _ = _ := hf; exact h9) | rfl
          · first | (have h9 : _ = _ := hf; exact h9) | rfl
          · exact hf
          · exact hf
          · exact trivial⟩
    · obtain rfl := Option.some.inj ho
      have f1 := haf { on := 1, ground := .data } (by simp) rfl rfl
      have f1 : _ = _ := Option.some.inj f1
      refine wpOp_plain rfl rfl ?_
      unfold Oper.wp
      go_simp
      refine (sCopySt g n c xs _ (by omega) (HX.out.in_ hin)).mono ?_
      rintro _ v2 ⟨g0_N, c0_N, rfl, ho0, hg0, hb2⟩
      exact hK _ _ ⟨⟨⟨updf f 5 (.agg #[.slice (some ⟨g0_N, 0, none⟩) n c0_N]), rfl⟩, hin.step hb2, ⟨Y0, Y1, Y2, Y3, Y4, Y5, Y6, Y7, Y8, Y9, Y10, Y11, Y12, Y13, kpW.step hb2⟩, kp0.step hb2⟩, ⟨g0_N, c0_N, rfl, Nat.le_trans (Nat.le_trans hBl_0 hin.size) hg0, ho0⟩, fun j hj hw hu hf => by
          rcases j with _ | _ | _ | _ | _ | _ | _ | _ | _ | _ | _ | _ | _ | _ | j
          · first | (have h9 : _ = _ := hf; exact h9) | rfl
          · first | (have h9 : _ = _ := hf; exact h9) | rfl
          · exact absurd rfl hj
          · first | (have h9 : _ = _ := hf; exact h9) | rfl
          · first | (have h9 : _ = _ := hf; exact h9) | rfl
          · first | (have h9 : _ = _ := hf; exact h9) | rfl
          · first | (have h9 : _ = _ := hf; exact h9) | rfl
          · first | (have h9 : _ = _ := hf; exact h9) | rfl
          · first | (have h9 : _ = _ := hf; exact h9) | rfl
          · first | (obtain ⟨g0, c0, h0, b0, o0⟩ := hf; exact ⟨g0, c0, h0, b0, o0.step hb2⟩)
          · first | (have h9 : _ = _ := hf; exact h9) | rfl
          · first | (have h9 : _ = _ := hf; exact h9) | rfl
          · exact absurd (hw.symm.trans (show waitsT _ 6 _ _ = true by kernel_rfl)) (by decide)
          · exact absurd (hw.symm.trans (show waitsT _ 6 _ _ = true by kernel_rfl)) (by decide)
          · exact trivial⟩
    · obtain rfl := Option.some.inj ho
      refine wpOp_plain rfl rfl ?_
      unfold Oper.wp
      go_simp
      exact hK _ _ ⟨⟨⟨updf f 6 (.pointer (some ⟨b_A, 1, none⟩)), rfl⟩, hin, ⟨Y0, Y1, Y2, Y3, Y4, Y5, Y6, Y7, Y8, Y9, Y10, Y11, Y12, Y13, kpW⟩, kp0⟩, rfl, fun j hj hw hu hf => by
          rcases j with _ | _ | _ | _ | _ | _ | _ | _ | _ | _ | _ | _ | _ | _ | j
          · first | (have h9 : _ = _ := hf; exact h9) | rfl
          · first | (have h9 : _ = _ := hf; exact h9) | rfl
          · exact hf
          · exact absurd rfl hj
          · first | (have h9 : _ = _ := hf; exact h9) | rfl
          · first | (have h9 : _ = _ := hf; exact h9) | rfl
          · first | (have h9 : _ = _ := hf; exact h9) | rfl
          · first | (have h9 : _ = _ := hf; exact h9) | rfl
          · first | (have h9 : _ = _ := hf; exact h9) | rfl
          · exact hf
          · first | (have h9 : _ = _ := hf; exact h9) | rfl
          · first | (have h9 : _ = _ := hf; exact h9) | rfl
          · exact hf
          · exact hf
          · exact trivial⟩
    · obtain rfl := Option.some.inj ho
      have f3 := haf { on := 3, ground := .data } (by simp) rfl rfl
      have f3 : _ = _ := Option.some.inj f3
      refine wpOp_plain rfl rfl ?_
      unfold Oper.wp
      go_simp
      exact hK _ _ ⟨⟨⟨updf f 7 (.agg #[.int .i64 a0, .int .i64 a1, .int .i64 a2]), rfl⟩, hin, ⟨Y0, Y1, Y2, Y3, Y4, Y5, Y6, Y7, Y8, Y9, Y10, Y11, Y12, Y13, kpW⟩, kp0⟩, rfl, fun j hj hw hu hf => by
          rcases j with _ | _ | _ | _ | _ | _ | _ | _ | _ | _ | _ | _ | _ | _ | j
          · first | (have h9 : _ = _ := hf; exact h9) | rfl
          · first | (have h9 : _ = _ := hf; exact h9) | rfl
          · exact hf
          · first | (have h9 : _ = _ := hf; exact h9) | rfl
          · exact absurd rfl hj
          · first | (have h9 : _ = _ := hf; exact h9) | rfl
          · first | (have h9 : _ = _ := hf; exact h9) | rfl
          · first | (have h9 : _ = _ := hf; exact h9) | rfl
          · first | (have h9 : _ = _ := hf; exact h9) | rfl
          · exact hf
          · first | (have h9 : _ = _ := hf; exact h9) | rfl
          · first | (have h9 : _ = _ := hf; exact h9) | rfl
          · exact hf
          · exact hf
          · exact trivial⟩
    · obtain rfl := Option.some.inj ho
      refine wpOp_plain rfl rfl ?_
      unfold Oper.wp
      go_simp
      exact hK _ _ ⟨⟨⟨updf f 8 (.pointer (some ⟨b_A, 4, none⟩)), rfl⟩, hin, ⟨Y0, Y1, Y2, Y3, Y4, Y5, Y6, Y7, Y8, Y9, Y10, Y11, Y12, Y13, kpW⟩, kp0⟩, rfl, fun j hj hw hu hf => by
          rcases j with _ | _ | _ | _ | _ | _ | _ | _ | _ | _ | _ | _ | _ | _ | j
          · first | (have h9 : _ = _ := hf; exact h9) | rfl
          · first | (have h9 : _ = _ := hf; exact h9) | rfl
          · exact hf
          · first | (have h9 : _ = _ := hf; exact h9) | rfl
          · first | (have h9 : _ = _ := hf; exact h9) | rfl
          · exact absurd rfl hj
          · first | (have h9 : _ = _ := hf; exact h9) | rfl
          · first | (have h9 : _ = _ := hf; exact h9) | rfl
          · first | (have h9 : _ = _ := hf; exact h9) | rfl
          · exact hf
          · first | (have h9 : _ = _ := hf; exact h9) | rfl
          · first | (have h9 : _ = _ := hf; exact h9) | rfl
          · exact hf
          · exact hf
          · exact trivial⟩
    · obtain rfl := Option.some.inj ho
      have f5 := haf { on := 5, ground := .data } (by simp) rfl rfl
      have f5 : _ = _ := Option.some.inj f5
      refine wpOp_plain rfl rfl ?_
      unfold Oper.wp
      go_simp
      exact hK _ _ ⟨⟨⟨updf f 9 (.agg #[.int .i64 a3, .int .i64 a4]), rfl⟩, hin, ⟨Y0, Y1, Y2, Y3, Y4, Y5, Y6, Y7, Y8, Y9, Y10, Y11, Y12, Y13, kpW⟩, kp0⟩, rfl, fun j hj hw hu hf => by
          rcases j with _ | _ | _ | _ | _ | _ | _ | _ | _ | _ | _ | _ | _ | _ | j
          · first | (have h9 : _ = _ := hf; exact h9) | rfl
          · first | (have h9 : _ = _ := hf; exact h9) | rfl
          · exact hf
          · first | (have h9 : _ = _ := hf; exact h9) | rfl
          · first | (have h9 : _ = _ := hf; exact h9) | rfl
          · first | (have h9 : _ = _ := hf; exact h9) | rfl
          · exact absurd rfl hj
          · first | (have h9 : _ = _ := hf; exact h9) | rfl
          · first | (have h9 : _ = _ := hf; exact h9) | rfl
          · exact hf
          · first | (have h9 : _ = _ := hf; exact h9) | rfl
          · first | (have h9 : _ = _ := hf; exact h9) | rfl
          · exact hf
          · exact hf
          · exact trivial⟩
    · obtain rfl := Option.some.inj ho
      refine wpOp_plain rfl rfl ?_
      unfold Oper.wp
      go_simp
      exact hK _ _ ⟨⟨⟨updf f 10 (.pointer (some ⟨b_A, 6, none⟩)), rfl⟩, hin, ⟨Y0, Y1, Y2, Y3, Y4, Y5, Y6, Y7, Y8, Y9, Y10, Y11, Y12, Y13, kpW⟩, kp0⟩, rfl, fun j hj hw hu hf => by
          rcases j with _ | _ | _ | _ | _ | _ | _ | _ | _ | _ | _ | _ | _ | _ | j
          · first | (have h9 : _ = _ := hf; exact h9) | rfl
          · first | (have h9 : _ = _ := hf; exact h9) | rfl
          · exact hf
          · first | (have h9 : _ = _ := hf; exact h9) | rfl
          · first | (have h9 : _ = _ := hf; exact h9) | rfl
          · first | (have h9 : _ = _ := hf; exact h9) | rfl
          · first | (have h9 : _ = _ := hf; exact h9) | rfl
          · exact absurd rfl hj
          · first | (have h9 : _ = _ := hf; exact h9) | rfl
          · exact hf
          · first | (have h9 : _ = _ := hf; exact h9) | rfl
          · first | (have h9 : _ = _ := hf; exact h9) | rfl
          · exact hf
          · exact hf
          · exact trivial⟩
    · obtain rfl := Option.some.inj ho
      have f7 := haf { on := 7, ground := .data } (by simp) rfl rfl
      have f7 : _ = _ := Option.some.inj f7
      refine wpOp_plain rfl rfl ?_
      unfold Oper.wp
      go_simp
      exact hK _ _ ⟨⟨⟨updf f 11 (.agg #[.slice (some ⟨h, 0, none⟩) m d, .int .i64 a5, .int .i64 a6, .int .i64 a7, .int .i64 a8, .int .i64 a9, .int .i64 a10]), rfl⟩, hin, ⟨Y0, Y1, Y2, Y3, Y4, Y5, Y6, Y7, Y8, Y9, Y10, Y11, Y12, Y13, kpW⟩, kp0⟩, rfl, fun j hj hw hu hf => by
          rcases j with _ | _ | _ | _ | _ | _ | _ | _ | _ | _ | _ | _ | _ | _ | j
          · first | (have h9 : _ = _ := hf; exact h9) | rfl
          · first | (have h9 : _ = _ := hf; exact h9) | rfl
          · exact hf
          · first | (have h9 : _ = _ := hf; exact h9) | rfl
          · first | (have h9 : _ = _ := hf; exact h9) | rfl
          · first | (have h9 : _ = _ := hf; exact h9) | rfl
          · first | (have h9 : _ = _ := hf; exact h9) | rfl
          · first | (have h9 : _ = _ := hf; exact h9) | rfl
          · exact absurd rfl hj
          · exact hf
          · first | (have h9 : _ = _ := hf; exact h9) | rfl
          · first | (have h9 : _ = _ := hf; exact h9) | rfl
          · exact hf
          · exact hf
          · exact trivial⟩
    · obtain rfl := Option.some.inj ho
      have f8 := haf { on := 8, ground := .data } (by simp) rfl rfl
      have f8 : _ = _ := Option.some.inj f8
      refine wpOp_plain rfl rfl ?_
      unfold Oper.wp
      go_simp
      refine (s37Copy h m d ys a5 a6 a7 a8 a9 a10 _ (by omega) (HY.out.in_ hin)).mono ?_
      rintro _ v2 ⟨g0_N, c0_N, rfl, ho0, hg0, hb2⟩
      exact hK _ _ ⟨⟨⟨updf f 12 (.agg #[.slice (some ⟨g0_N, 0, none⟩) m c0_N, .int .i64 a5, .int .i64 a6, .int .i64 a7, .int .i64 a8, .int .i64 a9, .int .i64 a10]), rfl⟩, hin.step hb2, ⟨Y0, Y1, Y2, Y3, Y4, Y5, Y6, Y7, Y8, Y9, Y10, Y11, Y12, Y13, kpW.step hb2⟩, kp0.step hb2⟩, ⟨g0_N, c0_N, rfl, Nat.le_trans (Nat.le_trans hBl_0 hin.size) hg0, ho0⟩, fun j hj hw hu hf => by
          rcases j with _ | _ | _ | _ | _ | _ | _ | _ | _ | _ | _ | _ | _ | _ | j
          · first | (have h9 : _ = _ := hf; exact h9) | rfl
          · first | (have h9 : _ = _ := hf; exact h9) | rfl
          · first | (obtain ⟨g0, c0, h0, b0, o0⟩ := hf; exact ⟨g0, c0, h0, b0, o0.step hb2⟩)
          · first | (have h9 : _ = _ := hf; exact h9) | rfl
          · first | (have h9 : _ = _ := hf; exact h9) | rfl
          · first | (have h9 : _ = _ := hf; exact h9) | rfl
          · first | (have h9 : _ = _ := hf; exact h9) | rfl
          · first | (have h9 : _ = _ := hf; exact h9) | rfl
          · first | (have h9 : _ = _ := hf; exact h9) | rfl
          · exact absurd rfl hj
          · first | (have h9 : _ = _ := hf; exact h9) | rfl
          · first | (have h9 : _ = _ := hf; exact h9) | rfl
          · exact absurd (hw.symm.trans (show waitsT _ 6 _ _ = true by kernel_rfl)) (by decide)
          · exact absurd (hw.symm.trans (show waitsT _ 6 _ _ = true by kernel_rfl)) (by decide)
          · exact trivial⟩
    · obtain rfl := Option.some.inj ho
      refine wpOp_plain rfl rfl ?_
      unfold Oper.wp
      go_simp
      exact hK _ _ ⟨⟨⟨updf f 13 (.pointer (some ⟨b_A, 13, none⟩)), rfl⟩, hin, ⟨Y0, Y1, Y2, Y3, Y4, Y5, Y6, Y7, Y8, Y9, Y10, Y11, Y12, Y13, kpW⟩, kp0⟩, rfl, fun j hj hw hu hf => by
          rcases j with _ | _ | _ | _ | _ | _ | _ | _ | _ | _ | _ | _ | _ | _ | j
          · first | (have h9 : _ = _ := hf; exact h9) | rfl
          · first | (have h9 : _ = _ := hf; exact h9) | rfl
          · exact hf
          · first | (have h9 : _ = _ := hf; exact h9) | rfl
          · first | (have h9 : _ = _ := hf; exact h9) | rfl
          · first | (have h9 : _ = _ := hf; exact h9) | rfl
          · first | (have h9 : _ = _ := hf; exact h9) | rfl
          · first | (have h9 : _ = _ := hf; exact h9) | rfl
          · first | (have h9 : _ = _ := hf; exact h9) | rfl
          · exact hf
          · exact absurd rfl hj
          · first | (have h9 : _ = _ := hf; exact h9) | rfl
          · exact hf
          · exact hf
          · exact trivial⟩
    · obtain rfl := Option.some.inj ho
      have f10 := haf { on := 10, ground := .data } (by simp) rfl rfl
      have f10 : _ = _ := Option.some.inj f10
      refine wpOp_plain rfl rfl ?_
      unfold Oper.wp
      go_simp
      exact hK _ _ ⟨⟨⟨updf f 14 (.int .i64 a11), rfl⟩, hin, ⟨Y0, Y1, Y2, Y3, Y4, Y5, Y6, Y7, Y8, Y9, Y10, Y11, Y12, Y13, kpW⟩, kp0⟩, rfl, fun j hj hw hu hf => by
          rcases j with _ | _ | _ | _ | _ | _ | _ | _ | _ | _ | _ | _ | _ | _ | j
          · first | (have h9 : _ = _ := hf; exact h9) | rfl
          · first | (have h9 : _ = _ := hf; exact h9) | rfl
          · exact hf
          · first | (have h9 : _ = _ := hf; exact h9) | rfl
          · first | (have h9 : _ = _ := hf; exact h9) | rfl
          · first | (have h9 : _ = _ := hf; exact h9) | rfl
          · first | (have h9 : _ = _ := hf; exact h9) | rfl
          · first | (have h9 : _ = _ := hf; exact h9) | rfl
          · first | (have h9 : _ = _ := hf; exact h9) | rfl
          · exact hf
          · first | (have h9 : _ = _ := hf; exact h9) | rfl
          · exact absurd rfl hj
          · exact hf
          · exact hf
          · exact trivial⟩
    · obtain rfl := Option.some.inj ho
      obtain ⟨g0_2, c0_2, f2, hb20, ho20⟩ := haf { on := 2, ground := .data } (by simp) rfl rfl
      have f2 : f 5 = _ := Option.some.inj f2
      have f4 := haf { on := 4, ground := .data } (by simp) rfl rfl
      have f4 : f 7 = _ := Option.some.inj f4
      have f6 := haf { on := 6, ground := .data } (by simp) rfl rfl
      have f6 : f 9 = _ := Option.some.inj f6
      obtain ⟨g0_9, c0_9, f9, hb90, ho90⟩ := haf { on := 9, ground := .data } (by simp) rfl rfl
      have f9 : f 12 = _ := Option.some.inj f9
      have f11 := haf { on := 11, ground := .data } (by simp) rfl rfl
      have f11 : f 14 = _ := Option.some.inj f11
      rw [f2, f4, f6, f9, f11]
      refine wpOp_plain rfl rfl ?_
      unfold Oper.wp
      go_simp
      exact hK _ _ ⟨⟨⟨updf (updf (updf (updf (updf (updf (f) 5 (.agg #[.slice (some ⟨g0_2, 0, none⟩) n c0_2])) 7 (.agg #[.int .i64 a0, .int .i64 a1, .int .i64 a2])) 9 (.agg #[.int .i64 a3, .int .i64 a4])) 12 (.agg #[.slice (some ⟨g0_9, 0, none⟩) m c0_9, .int .i64 a5, .int .i64 a6, .int .i64 a7, .int .i64 a8, .int .i64 a9, .int .i64 a10])) 14 (.int .i64 a11)) 15 (.agg #[.slice (some ⟨g0_2, 0, none⟩) n c0_2, .int .i64 a0, .int .i64 a1, .int .i64 a2, .int .i64 a3, .int .i64 a4, .slice (some ⟨g0_9, 0, none⟩) m c0_9, .int .i64 a5, .int .i64 a6, .int .i64 a7, .int .i64 a8, .int .i64 a9, .int .i64 a10, .int .i64 a11]), rfl⟩, hin, ⟨Y0, Y1, Y2, Y3, Y4, Y5, Y6, Y7, Y8, Y9, Y10, Y11, Y12, Y13, kpW⟩, kp0⟩, ⟨g0_2, c0_2, g0_9, c0_9, rfl, hb20, ho20, hb90, ho90⟩, fun j hj hw hu hf => by
          rcases j with _ | _ | _ | _ | _ | _ | _ | _ | _ | _ | _ | _ | _ | _ | j
          · first | (have h9 : _ = _ := hf; exact h9) | rfl
          · first | (have h9 : _ = _ := hf; exact h9) | rfl
          · exact absurd (hu.symm.trans (show (_ || usesB _ _ _ _) = false by kernel_rfl)) (by decide)
          · first | (have h9 : _ = _ := hf; exact h9) | rfl
          · first | (have h9 : _ = _ := hf; exact h9) | rfl
          · first | (have h9 : _ = _ := hf; exact h9) | rfl
          · first | (have h9 : _ = _ := hf; exact h9) | rfl
          · first | (have h9 : _ = _ := hf; exact h9) | rfl
          · first | (have h9 : _ = _ := hf; exact h9) | rfl
          · exact absurd (hu.symm.trans (show (_ || usesB _ _ _ _) = false by kernel_rfl)) (by decide)
          · first | (have h9 : _ = _ := hf; exact h9) | rfl
          · first | (have h9 : _ = _ := hf; exact h9) | rfl
          · exact absurd rfl hj
          · exact absurd (hw.symm.trans (show waitsT _ 6 _ _ = true by kernel_rfl)) (by decide)
          · exact trivial⟩
    · obtain rfl := Option.some.inj ho
      obtain ⟨g0_12, c0_12, g1_12, c1_12, f12, hb120, ho120, hb121, ho121⟩ := haf { on := 12, ground := .data } (by simp) rfl rfl
      have f12 : f 15 = _ := Option.some.inj f12
      have z0 := kpW.cell 0
      have y0 := kpW.frozen 0
      have z1 := kpW.cell 1
      have y1 := kpW.frozen 1
      have z2 := kpW.cell 2
      have y2 := kpW.frozen 2
      have z3 := kpW.cell 3
      have y3 := kpW.frozen 3
      have z4 := kpW.cell 4
      have y4 := kpW.frozen 4
      have z5 := kpW.cell 5
      have y5 := kpW.frozen 5
      have z6 := kpW.cell 6
      have y6 := kpW.frozen 6
      have z7 := kpW.cell 7
      have y7 := kpW.frozen 7
      have z8 := kpW.cell 8
      have y8 := kpW.frozen 8
      have z9 := kpW.cell 9
      have y9 := kpW.frozen 9
      have z10 := kpW.cell 10
      have y10 := kpW.frozen 10
      have z11 := kpW.cell 11
      have y11 := kpW.frozen 11
      have z12 := kpW.cell 12
      have y12 := kpW.frozen 12
      have z13 := kpW.cell 13
      have y13 := kpW.frozen 13
      have hgr : v1.grownBy ((((((((((((((v1.setCell ⟨b_R, 0, none⟩ (.slice (some ⟨g0_12, 0, none⟩) n c0_12)).setCell ⟨b_R, 1, none⟩ (.int .i64 a0)).setCell ⟨b_R, 2, none⟩ (.int .i64 a1)).setCell ⟨b_R, 3, none⟩ (.int .i64 a2)).setCell ⟨b_R, 4, none⟩ (.int .i64 a3)).setCell ⟨b_R, 5, none⟩ (.int .i64 a4)).setCell ⟨b_R, 6, none⟩ (.slice (some ⟨g1_12, 0, none⟩) m c1_12)).setCell ⟨b_R, 7, none⟩ (.int .i64 a5)).setCell ⟨b_R, 8, none⟩ (.int .i64 a6)).setCell ⟨b_R, 9, none⟩ (.int .i64 a7)).setCell ⟨b_R, 10, none⟩ (.int .i64 a8)).setCell ⟨b_R, 11, none⟩ (.int .i64 a9)).setCell ⟨b_R, 12, none⟩ (.int .i64 a10)).setCell ⟨b_R, 13, none⟩ (.int .i64 a11)) (some b_R) := (only_setCell (only_setCell (only_setCell (only_setCell (only_setCell (only_setCell (only_setCell (only_setCell (only_setCell (only_setCell (only_setCell (only_setCell (only_setCell (only_setCell (only_refl _ _) (p := ⟨b_R, 0, none⟩) (.inl rfl) _) (p := ⟨b_R, 1, none⟩) (.inl rfl) _) (p := ⟨b_R, 2, none⟩) (.inl rfl) _) (p := ⟨b_R, 3, none⟩) (.inl rfl) _) (p := ⟨b_R, 4, none⟩) (.inl rfl) _) (p := ⟨b_R, 5, none⟩) (.inl rfl) _) (p := ⟨b_R, 6, none⟩) (.inl rfl) _) (p := ⟨b_R, 7, none⟩) (.inl rfl) _) (p := ⟨b_R, 8, none⟩) (.inl rfl) _) (p := ⟨b_R, 9, none⟩) (.inl rfl) _) (p := ⟨b_R, 10, none⟩) (.inl rfl) _) (p := ⟨b_R, 11, none⟩) (.inl rfl) _) (p := ⟨b_R, 12, none⟩) (.inl rfl) _) (p := ⟨b_R, 13, none⟩) (.inl rfl) _)
      have hi2 : In w.heap.size w ((((((((((((((v1.setCell ⟨b_R, 0, none⟩ (.slice (some ⟨g0_12, 0, none⟩) n c0_12)).setCell ⟨b_R, 1, none⟩ (.int .i64 a0)).setCell ⟨b_R, 2, none⟩ (.int .i64 a1)).setCell ⟨b_R, 3, none⟩ (.int .i64 a2)).setCell ⟨b_R, 4, none⟩ (.int .i64 a3)).setCell ⟨b_R, 5, none⟩ (.int .i64 a4)).setCell ⟨b_R, 6, none⟩ (.slice (some ⟨g1_12, 0, none⟩) m c1_12)).setCell ⟨b_R, 7, none⟩ (.int .i64 a5)).setCell ⟨b_R, 8, none⟩ (.int .i64 a6)).setCell ⟨b_R, 9, none⟩ (.int .i64 a7)).setCell ⟨b_R, 10, none⟩ (.int .i64 a8)).setCell ⟨b_R, 11, none⟩ (.int .i64 a9)).setCell ⟨b_R, 12, none⟩ (.int .i64 a10)).setCell ⟨b_R, 13, none⟩ (.int .i64 a11)) := (In.set_ (In.set_ (In.set_ (In.set_ (In.set_ (In.set_ (In.set_ (In.set_ (In.set_ (In.set_ (In.set_ (In.set_ (In.set_ (In.set_ hin (p := ⟨b_R, 0, none⟩) hwb_R _) (p := ⟨b_R, 1, none⟩) hwb_R _) (p := ⟨b_R, 2, none⟩) hwb_R _) (p := ⟨b_R, 3, none⟩) hwb_R _) (p := ⟨b_R, 4, none⟩) hwb_R _) (p := ⟨b_R, 5, none⟩) hwb_R _) (p := ⟨b_R, 6, none⟩) hwb_R _) (p := ⟨b_R, 7, none⟩) hwb_R _) (p := ⟨b_R, 8, none⟩) hwb_R _) (p := ⟨b_R, 9, none⟩) hwb_R _) (p := ⟨b_R, 10, none⟩) hwb_R _) (p := ⟨b_R, 11, none⟩) hwb_R _) (p := ⟨b_R, 12, none⟩) hwb_R _) (p := ⟨b_R, 13, none⟩) hwb_R _)
      have HBK : Blk ((((((((((((((v1.setCell ⟨b_R, 0, none⟩ (.slice (some ⟨g0_12, 0, none⟩) n c0_12)).setCell ⟨b_R, 1, none⟩ (.int .i64 a0)).setCell ⟨b_R, 2, none⟩ (.int .i64 a1)).setCell ⟨b_R, 3, none⟩ (.int .i64 a2)).setCell ⟨b_R, 4, none⟩ (.int .i64 a3)).setCell ⟨b_R, 5, none⟩ (.int .i64 a4)).setCell ⟨b_R, 6, none⟩ (.slice (some ⟨g1_12, 0, none⟩) m c1_12)).setCell ⟨b_R, 7, none⟩ (.int .i64 a5)).setCell ⟨b_R, 8, none⟩ (.int .i64 a6)).setCell ⟨b_R, 9, none⟩ (.int .i64 a7)).setCell ⟨b_R, 10, none⟩ (.int .i64 a8)).setCell ⟨b_R, 11, none⟩ (.int .i64 a9)).setCell ⟨b_R, 12, none⟩ (.int .i64 a10)).setCell ⟨b_R, 13, none⟩ (.int .i64 a11)) b_R 45 #[.slice (some ⟨g0_12, 0, none⟩) n c0_12, .int .i64 a0, .int .i64 a1, .int .i64 a2, .int .i64 a3, .int .i64 a4, .slice (some ⟨g1_12, 0, none⟩) m c1_12, .int .i64 a5, .int .i64 a6, .int .i64 a7, .int .i64 a8, .int .i64 a9, .int .i64 a10, .int .i64 a11] := by
        have h := ((((((((((((((kpW.set_ 0 (.slice (some ⟨g0_12, 0, none⟩) n c0_12)).set_ 1 (.int .i64 a0)).set_ 2 (.int .i64 a1)).set_ 3 (.int .i64 a2)).set_ 4 (.int .i64 a3)).set_ 5 (.int .i64 a4)).set_ 6 (.slice (some ⟨g1_12, 0, none⟩) m c1_12)).set_ 7 (.int .i64 a5)).set_ 8 (.int .i64 a6)).set_ 9 (.int .i64 a7)).set_ 10 (.int .i64 a8)).set_ 11 (.int .i64 a9)).set_ 12 (.int .i64 a10)).set_ 13 (.int .i64 a11))
        simpa using h
      refine wpOp_plain rfl rfl ?_
      unfold Oper.wp
      go_simp
      exact hK _ _ ⟨⟨⟨updf f 15 (.agg #[.slice (some ⟨g0_12, 0, none⟩) n c0_12, .int .i64 a0, .int .i64 a1, .int .i64 a2, .int .i64 a3, .int .i64 a4, .slice (some ⟨g1_12, 0, none⟩) m c1_12, .int .i64 a5, .int .i64 a6, .int .i64 a7, .int .i64 a8, .int .i64 a9, .int .i64 a10, .int .i64 a11]), rfl⟩, hi2, ⟨_, _, _, _, _, _, _, _, _, _, _, _, _, _, HBK⟩, Blk.grown kp0 hgr (fun h => absurd (Option.some.inj h) (by first | exact NB_A_R.out | exact NB_R_A.out.symm))⟩, ⟨g0_12, c0_12, g1_12, c1_12, HBK, hb120, ho120.far kpW (by decide) hgr, hb121, ho121.far kpW (by decide) hgr⟩, fun j hj hw hu hf => by
          rcases j with _ | _ | _ | _ | _ | _ | _ | _ | _ | _ | _ | _ | _ | _ | j
          · first | (have h9 : _ = _ := hf; exact h9) | rfl
          · first | (have h9 : _ = _ := hf; exact h9) | rfl
          · exact absurd (hu.symm.trans (show (_ || usesB _ _ _ _) = false by kernel_rfl)) (by decide)
          · first | (have h9 : _ = _ := hf; exact h9) | rfl
          · first | (have h9 : _ = _ := hf; exact h9) | rfl
          · first | (have h9 : _ = _ := hf; exact h9) | rfl
          · first | (have h9 : _ = _ := hf; exact h9) | rfl
          · first | (have h9 : _ = _ := hf; exact h9) | rfl
          · first | (have h9 : _ = _ := hf; exact h9) | rfl
          · exact absurd (hu.symm.trans (show (_ || usesB _ _ _ _) = false by kernel_rfl)) (by decide)
          · first | (have h9 : _ = _ := hf; exact h9) | rfl
          · first | (have h9 : _ = _ := hf; exact h9) | rfl
          · exact absurd (hu.symm.trans (show (_ || usesB _ _ _ _) = false by kernel_rfl)) (by decide)
          · exact absurd rfl hj
          · exact trivial⟩
  intro a w_1 hI hF
  obtain ⟨⟨hCpS, rfl⟩, i_1, ⟨Y0, Y1, Y2, Y3, Y4, Y5, Y6, Y7, Y8, Y9, Y10, Y11, Y12, Y13, kpW⟩, kp0⟩ := hI
  clear kpW
  obtain ⟨g0_1, c0_1, g1_1, c1_1, kk_1, hg0_1, ho0_1, hg1_1, ho1_1⟩ := hF 13 (by decide) (by decide)
  clear hF
  have GX_M0R : Hid (w.heap.size ≤ g0_1) := Lib.hid (Nat.le_trans hBg_0 hg0_1)
  have o_1_M0R : OwnC w_1 g0_1 (n) c0_1 xs := ho0_1
  clear ho0_1 hg0_1
  have GX_M1R : Hid (w.heap.size ≤ g1_1) := Lib.hid (Nat.le_trans hBg_0 hg1_1)
  have o_1_M1R : OCEvent w_1 g1_1 (m) c1_1 ys := ho1_1
  clear ho1_1 hg1_1
  have k_1_R : Blk w_1 b_R 45 #[.slice (some ⟨g0_1, 0, none⟩) n c0_1, .int .i64 a0, .int .i64 a1, .int .i64 a2, .int .i64 a3, .int .i64 a4, .slice (some ⟨g1_1, 0, none⟩) m c1_1, .int .i64 a5, .int .i64 a6, .int .i64 a7, .int .i64 a8, .int .i64 a9, .int .i64 a10, .int .i64 a11] := kk_1
  clear kk_1
  clear kp0
  clear i_0 k_0_A c_0_A_0 c_0_A_1 c_0_A_2 c_0_A_3 c_0_A_4 c_0_A_5 c_0_A_6 c_0_A_7 c_0_A_8 c_0_A_9 c_0_A_10 c_0_A_11 c_0_A_12 c_0_A_13 l_0_A z_0_A k_0_R c_0_R_0 c_0_R_1 c_0_R_2 c_0_R_3 c_0_R_4 c_0_R_5 c_0_R_6 c_0_R_7 c_0_R_8 c_0_R_9 c_0_R_10 c_0_R_11 c_0_R_12 c_0_R_13 l_0_R z_0_R hb_0
  obtain ⟨c_1_R_0, c_1_R_1, c_1_R_2, c_1_R_3, c_1_R_4, c_1_R_5, c_1_R_6, c_1_R_7, c_1_R_8, c_1_R_9, c_1_R_10, c_1_R_11, c_1_R_12, c_1_R_13⟩ := cells14 k_1_R
  have O0 := Lib.hid o_1_M0R
  have O1 := Lib.hid o_1_M1R
  clear o_1_M0R o_1_M1R
  go_wp2
  exact bodyPost_ret (v := .agg #[.slice (some ⟨g0_1, 0, none⟩) n c0_1, .int .i64 a0, .int .i64 a1, .int .i64 a2, .int .i64 a3, .int .i64 a4, .slice (some ⟨g1_1, 0, none⟩) m c1_1, .int .i64 a5, .int .i64 a6, .int .i64 a7, .int .i64 a8, .int .i64 a9, .int .i64 a10, .int .i64 a11]) (by simp [results, Try.results50, go_sem, c_1_R_0, c_1_R_1, c_1_R_2, c_1_R_3, c_1_R_4, c_1_R_5, c_1_R_6, c_1_R_7, c_1_R_8, c_1_R_9, c_1_R_10, c_1_R_11, c_1_R_12, c_1_R_13]) rfl ⟨g0_1, c0_1, g1_1, c1_1, rfl, O0.out, GX_M0R.out, O1.out, GX_M1R.out, i_1.below⟩
theorem i38Copy (g n c : Nat) (xs : List Int) (h m d : Nat) (ys : List EventR) (a0 a1 a2 a3 a4 a5 a6 a7 a8 a9 a10 a11 : Int) (w : World) (hn : (n : Int) ≤ 1048576) (hm : (m : Int) ≤ 1048577) (hx : ReadsI w (some ⟨g, 0, none⟩) n xs) (hy : ReadsEvent w (some ⟨h, 0, none⟩) m ys) : Calls Try.prog 96 #[.agg #[.slice (some ⟨g, 0, none⟩) n c, .int .i64 a0, .int .i64 a1, .int .i64 a2, .int .i64 a3, .int .i64 a4, .slice (some ⟨h, 0, none⟩) m d, .int .i64 a5, .int .i64 a6, .int .i64 a7, .int .i64 a8, .int .i64 a9, .int .i64 a10, .int .i64 a11]] w (RowY n xs m ys a0 a1 a2 a3 a4 a5 a6 a7 a8 a9 a10 a11 w) := by
  have HX := Lib.hid hx
  have HY := Lib.hid hy
  clear hx hy
  obtain ⟨b_A, hbx_A⟩ : ∃ b, b = w.heap.size := ⟨_, rfl⟩
  have kk_A : Blk ((w.alloc (.cells #[.slice (some ⟨g, 0, none⟩) n c, .int .i64 a0, .int .i64 a1, .int .i64 a2, .int .i64 a3, .int .i64 a4, .slice (some ⟨h, 0, none⟩) m d, .int .i64 a5, .int .i64 a6, .int .i64 a7, .int .i64 a8, .int .i64 a9, .int .i64 a10, .int .i64 a11] 45)).alloc (.cells #[.slice none 0 0, .int .i64 0, .int .i64 0, .int .i64 0, .int .i64 0, .int .i64 0, .slice none 0 0, .int .i64 0, .int .i64 0, .int .i64 0, .int .i64 0, .int .i64 0, .int .i64 0, .int .i64 0] 45)) b_A 45 #[.slice (some ⟨g, 0, none⟩) n c, .int .i64 a0, .int .i64 a1, .int .i64 a2, .int .i64 a3, .int .i64 a4, .slice (some ⟨h, 0, none⟩) m d, .int .i64 a5, .int .i64 a6, .int .i64 a7, .int .i64 a8, .int .i64 a9, .int .i64 a10, .int .i64 a11] := ((Blk.new' (w := w) (t := 45) (cs := #[.slice (some ⟨g, 0, none⟩) n c, .int .i64 a0, .int .i64 a1, .int .i64 a2, .int .i64 a3, .int .i64 a4, .slice (some ⟨h, 0, none⟩) m d, .int .i64 a5, .int .i64 a6, .int .i64 a7, .int .i64 a8, .int .i64 a9, .int .i64 a10, .int .i64 a11]) (g := b_A) (by simp [hbx_A])).alloc (.cells #[.slice none 0 0, .int .i64 0, .int .i64 0, .int .i64 0, .int .i64 0, .int .i64 0, .slice none 0 0, .int .i64 0, .int .i64 0, .int .i64 0, .int .i64 0, .int .i64 0, .int .i64 0, .int .i64 0] 45))
  have hwb_A : w.heap.size ≤ b_A := by omega
  obtain ⟨b_R, hbx_R⟩ : ∃ b, b = w.heap.size + 1 := ⟨_, rfl⟩
  have kk_R : Blk ((w.alloc (.cells #[.slice (some ⟨g, 0, none⟩) n c, .int .i64 a0, .int .i64 a1, .int .i64 a2, .int .i64 a3, .int .i64 a4, .slice (some ⟨h, 0, none⟩) m d, .int .i64 a5, .int .i64 a6, .int .i64 a7, .int .i64 a8, .int .i64 a9, .int .i64 a10, .int .i64 a11] 45)).alloc (.cells #[.slice none 0 0, .int .i64 0, .int .i64 0, .int .i64 0, .int .i64 0, .int .i64 0, .slice none 0 0, .int .i64 0, .int .i64 0, .int .i64 0, .int .i64 0, .int .i64 0, .int .i64 0, .int .i64 0] 45)) b_R 45 #[.slice none 0 0, .int .i64 0, .int .i64 0, .int .i64 0, .int .i64 0, .int .i64 0, .slice none 0 0, .int .i64 0, .int .i64 0, .int .i64 0, .int .i64 0, .int .i64 0, .int .i64 0, .int .i64 0] := (Blk.new' (w := (w.alloc (.cells #[.slice (some ⟨g, 0, none⟩) n c, .int .i64 a0, .int .i64 a1, .int .i64 a2, .int .i64 a3, .int .i64 a4, .slice (some ⟨h, 0, none⟩) m d, .int .i64 a5, .int .i64 a6, .int .i64 a7, .int .i64 a8, .int .i64 a9, .int .i64 a10, .int .i64 a11] 45))) (t := 45) (cs := #[.slice none 0 0, .int .i64 0, .int .i64 0, .int .i64 0, .int .i64 0, .int .i64 0, .slice none 0 0, .int .i64 0, .int .i64 0, .int .i64 0, .int .i64 0, .int .i64 0, .int .i64 0, .int .i64 0]) (g := b_R) (by simp [hbx_R]))
  have hwb_R : w.heap.size ≤ b_R := by omega
  have NB_A_R : Hid (b_A ≠ b_R) := Lib.hid (by omega)
  have hb_0 : Below w.heap.size w ((w.alloc (.cells #[.slice (some ⟨g, 0, none⟩) n c, .int .i64 a0, .int .i64 a1, .int .i64 a2, .int .i64 a3, .int .i64 a4, .slice (some ⟨h, 0, none⟩) m d, .int .i64 a5, .int .i64 a6, .int .i64 a7, .int .i64 a8, .int .i64 a9, .int .i64 a10, .int .i64 a11] 45)).alloc (.cells #[.slice none 0 0, .int .i64 0, .int .i64 0, .int .i64 0, .int .i64 0, .int .i64 0, .slice none 0 0, .int .i64 0, .int .i64 0, .int .i64 0, .int .i64 0, .int .i64 0, .int .i64 0, .int .i64 0] 45)) := by
    have h : In w.heap.size w ((w.alloc (.cells #[.slice (some ⟨g, 0, none⟩) n c, .int .i64 a0, .int .i64 a1, .int .i64 a2, .int .i64 a3, .int .i64 a4, .slice (some ⟨h, 0, none⟩) m d, .int .i64 a5, .int .i64 a6, .int .i64 a7, .int .i64 a8, .int .i64 a9, .int .i64 a10, .int .i64 a11] 45)).alloc (.cells #[.slice none 0 0, .int .i64 0, .int .i64 0, .int .i64 0, .int .i64 0, .int .i64 0, .slice none 0 0, .int .i64 0, .int .i64 0, .int .i64 0, .int .i64 0, .int .i64 0, .int .i64 0, .int .i64 0] 45)) := by (repeat (first | exact In.refl _ | assumption | apply In.alloc | apply In.drewN | apply In.drew | (refine In.step ?_ (by assumption))))
    exact h.below
  have hsz_0 : ((w.alloc (.cells #[.slice (some ⟨g, 0, none⟩) n c, .int .i64 a0, .int .i64 a1, .int .i64 a2, .int .i64 a3, .int .i64 a4, .slice (some ⟨h, 0, none⟩) m d, .int .i64 a5, .int .i64 a6, .int .i64 a7, .int .i64 a8, .int .i64 a9, .int .i64 a10, .int .i64 a11] 45)).alloc (.cells #[.slice none 0 0, .int .i64 0, .int .i64 0, .int .i64 0, .int .i64 0, .int .i64 0, .slice none 0 0, .int .i64 0, .int .i64 0, .int .i64 0, .int .i64 0, .int .i64 0, .int .i64 0, .int .i64 0] 45)).heap.size = b_R + 1 := by simp [hbx_R]
  go_enter Try.func96, Try.ntmps96
  go_wp2_with fail
  rw [← hbx_R]
  clear hbx_R
  rw [← hbx_A]
  clear hbx_A
  generalize ((w.alloc (.cells #[.slice (some ⟨g, 0, none⟩) n c, .int .i64 a0, .int .i64 a1, .int .i64 a2, .int .i64 a3, .int .i64 a4, .slice (some ⟨h, 0, none⟩) m d, .int .i64 a5, .int .i64 a6, .int .i64 a7, .int .i64 a8, .int .i64 a9, .int .i64 a10, .int .i64 a11] 45)).alloc (.cells #[.slice none 0 0, .int .i64 0, .int .i64 0, .int .i64 0, .int .i64 0, .int .i64 0, .slice none 0 0, .int .i64 0, .int .i64 0, .int .i64 0, .int .i64 0, .int .i64 0, .int .i64 0, .int .i64 0] 45)) = w_0 at *
  have i_0 : In w.heap.size w w_0 := In.step (by (repeat (first | exact In.refl _ | assumption | apply In.alloc | apply In.drewN | apply In.drew | (refine In.step ?_ (by assumption))))) hb_0
  have k_0_A : Blk w_0 b_A 45 #[.slice (some ⟨g, 0, none⟩) n c, .int .i64 a0, .int .i64 a1, .int .i64 a2, .int .i64 a3, .int .i64 a4, .slice (some ⟨h, 0, none⟩) m d, .int .i64 a5, .int .i64 a6, .int .i64 a7, .int .i64 a8, .int .i64 a9, .int .i64 a10, .int .i64 a11] := kk_A
  obtain ⟨c_0_A_0, c_0_A_1, c_0_A_2, c_0_A_3, c_0_A_4, c_0_A_5, c_0_A_6, c_0_A_7, c_0_A_8, c_0_A_9, c_0_A_10, c_0_A_11, c_0_A_12, c_0_A_13⟩ := cells14 k_0_A
  have l_0_A := k_0_A.lt
  have z_0_A := k_0_A.frozen
  have k_0_R : Blk w_0 b_R 45 #[.slice none 0 0, .int .i64 0, .int .i64 0, .int .i64 0, .int .i64 0, .int .i64 0, .slice none 0 0, .int .i64 0, .int .i64 0, .int .i64 0, .int .i64 0, .int .i64 0, .int .i64 0, .int .i64 0] := kk_R
  obtain ⟨c_0_R_0, c_0_R_1, c_0_R_2, c_0_R_3, c_0_R_4, c_0_R_5, c_0_R_6, c_0_R_7, c_0_R_8, c_0_R_9, c_0_R_10, c_0_R_11, c_0_R_12, c_0_R_13⟩ := cells14 k_0_R
  have l_0_R := k_0_R.lt
  have z_0_R := k_0_R.frozen
  clear kk_A kk_R
  go_wp2_with fail
  refine (iCopySt g n c xs _ (by omega) (HX.out.in_ (by (repeat (first | exact In.refl _ | assumption | apply In.alloc | apply In.drewN | apply In.drew | (refine In.step ?_ (by assumption))))))).mono ?_
  rintro _ w_1 ⟨gS_1, cS_1, rfl, hoS_1, hgS_1, hb_1⟩
  have GX_S : Hid (w.heap.size ≤ gS_1) := Lib.hid (by have h1 := hgS_1; (try simp at h1); have h2 := In.size i_0; omega)
  have o_1_S : OwnC w_1 gS_1 (n) cS_1 xs := hoS_1
  clear hoS_1 hgS_1
  have i_1 : In w.heap.size w w_1 := In.step (by (repeat (first | exact In.refl _ | assumption | apply In.alloc | apply In.drewN | apply In.drew | (refine In.step ?_ (by assumption))))) hb_1
  have k_1_A : Blk w_1 b_A 45 #[.slice (some ⟨g, 0, none⟩) n c, .int .i64 a0, .int .i64 a1, .int .i64 a2, .int .i64 a3, .int .i64 a4, .slice (some ⟨h, 0, none⟩) m d, .int .i64 a5, .int .i64 a6, .int .i64 a7, .int .i64 a8, .int .i64 a9, .int .i64 a10, .int .i64 a11] := Blk.step (by (with_reducible (repeat (first | assumption | exact Blk.new' (by simp) | apply Blk.drewN | apply Blk.drew | apply Blk.alloc | (refine Blk.far ?_ (by (try simp) <;> omega) _))))) hb_1
  obtain ⟨c_1_A_0, c_1_A_1, c_1_A_2, c_1_A_3, c_1_A_4, c_1_A_5, c_1_A_6, c_1_A_7, c_1_A_8, c_1_A_9, c_1_A_10, c_1_A_11, c_1_A_12, c_1_A_13⟩ := cells14 k_1_A
  have l_1_A := k_1_A.lt
  have z_1_A := k_1_A.frozen
  have k_1_R : Blk w_1 b_R 45 #[.slice none 0 0, .int .i64 0, .int .i64 0, .int .i64 0, .int .i64 0, .int .i64 0, .slice none 0 0, .int .i64 0, .int .i64 0, .int .i64 0, .int .i64 0, .int .i64 0, .int .i64 0, .int .i64 0] := Blk.step (by (with_reducible (repeat (first | assumption | exact Blk.new' (by simp) | apply Blk.drewN | apply Blk.drew | apply Blk.alloc | (refine Blk.far ?_ (by (try simp) <;> omega) _))))) hb_1
  obtain ⟨c_1_R_0, c_1_R_1, c_1_R_2, c_1_R_3, c_1_R_4, c_1_R_5, c_1_R_6, c_1_R_7, c_1_R_8, c_1_R_9, c_1_R_10, c_1_R_11, c_1_R_12, c_1_R_13⟩ := cells14 k_1_R
  have l_1_R := k_1_R.lt
  have z_1_R := k_1_R.frozen
  clear i_0 k_0_A c_0_A_0 c_0_A_1 c_0_A_2 c_0_A_3 c_0_A_4 c_0_A_5 c_0_A_6 c_0_A_7 c_0_A_8 c_0_A_9 c_0_A_10 c_0_A_11 c_0_A_12 c_0_A_13 l_0_A z_0_A k_0_R c_0_R_0 c_0_R_1 c_0_R_2 c_0_R_3 c_0_R_4 c_0_R_5 c_0_R_6 c_0_R_7 c_0_R_8 c_0_R_9 c_0_R_10 c_0_R_11 c_0_R_12 c_0_R_13 l_0_R z_0_R hb_0
  have hn1_A_R : b_R ≠ b_A := by first | exact NB_R_A.out | exact NB_A_R.out.symm
  have hn2_A_R : b_A ≠ b_R := hn1_A_R.symm
  go_wp2_with fail
  have kf_A : Blk (w_1.setCell ⟨b_A, 0, none⟩ (.slice (some ⟨gS_1, 0, none⟩) n cS_1)) b_A 45 #[.slice (some ⟨gS_1, 0, none⟩) n cS_1, .int .i64 a0, .int .i64 a1, .int .i64 a2, .int .i64 a3, .int .i64 a4, .slice (some ⟨h, 0, none⟩) m d, .int .i64 a5, .int .i64 a6, .int .i64 a7, .int .i64 a8, .int .i64 a9, .int .i64 a10, .int .i64 a11] := by
    have h := (k_1_A.set_ 0 (.slice (some ⟨gS_1, 0, none⟩) n cS_1))
    simpa using h
  have kf_R : Blk (w_1.setCell ⟨b_A, 0, none⟩ (.slice (some ⟨gS_1, 0, none⟩) n cS_1)) b_R 45 #[.slice none 0 0, .int .i64 0, .int .i64 0, .int .i64 0, .int .i64 0, .int .i64 0, .slice none 0 0, .int .i64 0, .int .i64 0, .int .i64 0, .int .i64 0, .int .i64 0, .int .i64 0, .int .i64 0] := by
    have h := (Blk.far k_1_R (p := ⟨b_A, 0, none⟩) (by first | exact NB_R_A.out | exact NB_A_R.out.symm) (.slice (some ⟨gS_1, 0, none⟩) n cS_1))
    simpa using h
  have fo_S : OwnC (w_1.setCell ⟨b_A, 0, none⟩ (.slice (some ⟨gS_1, 0, none⟩) n cS_1)) gS_1 (n) cS_1 xs := (OwnC.far o_1_S k_1_A (by decide) (only_set ⟨b_A, 0, none⟩ (.slice (some ⟨gS_1, 0, none⟩) n cS_1)))
  have ii_2 : In w.heap.size w (w_1.setCell ⟨b_A, 0, none⟩ (.slice (some ⟨gS_1, 0, none⟩) n cS_1)) := (In.set_ i_1 (p := ⟨b_A, 0, none⟩) hwb_A (.slice (some ⟨gS_1, 0, none⟩) n cS_1))
  generalize (w_1.setCell ⟨b_A, 0, none⟩ (.slice (some ⟨gS_1, 0, none⟩) n cS_1)) = w_2 at *
  clear hn1_A_R hn2_A_R
  have i_2 : In w.heap.size w w_2 := ii_2
  have k_2_A : Blk w_2 b_A 45 #[.slice (some ⟨gS_1, 0, none⟩) n cS_1, .int .i64 a0, .int .i64 a1, .int .i64 a2, .int .i64 a3, .int .i64 a4, .slice (some ⟨h, 0, none⟩) m d, .int .i64 a5, .int .i64 a6, .int .i64 a7, .int .i64 a8, .int .i64 a9, .int .i64 a10, .int .i64 a11] := kf_A
  obtain ⟨c_2_A_0, c_2_A_1, c_2_A_2, c_2_A_3, c_2_A_4, c_2_A_5, c_2_A_6, c_2_A_7, c_2_A_8, c_2_A_9, c_2_A_10, c_2_A_11, c_2_A_12, c_2_A_13⟩ := cells14 k_2_A
  have l_2_A := k_2_A.lt
  have z_2_A := k_2_A.frozen
  have k_2_R : Blk w_2 b_R 45 #[.slice none 0 0, .int .i64 0, .int .i64 0, .int .i64 0, .int .i64 0, .int .i64 0, .slice none 0 0, .int .i64 0, .int .i64 0, .int .i64 0, .int .i64 0, .int .i64 0, .int .i64 0, .int .i64 0] := kf_R
  obtain ⟨c_2_R_0, c_2_R_1, c_2_R_2, c_2_R_3, c_2_R_4, c_2_R_5, c_2_R_6, c_2_R_7, c_2_R_8, c_2_R_9, c_2_R_10, c_2_R_11, c_2_R_12, c_2_R_13⟩ := cells14 k_2_R
  have l_2_R := k_2_R.lt
  have z_2_R := k_2_R.frozen
  have o_2_S : OwnC w_2 gS_1 (n) cS_1 xs := fo_S
  clear i_1 k_1_A c_1_A_0 c_1_A_1 c_1_A_2 c_1_A_3 c_1_A_4 c_1_A_5 c_1_A_6 c_1_A_7 c_1_A_8 c_1_A_9 c_1_A_10 c_1_A_11 c_1_A_12 c_1_A_13 l_1_A z_1_A k_1_R c_1_R_0 c_1_R_1 c_1_R_2 c_1_R_3 c_1_R_4 c_1_R_5 c_1_R_6 c_1_R_7 c_1_R_8 c_1_R_9 c_1_R_10 c_1_R_11 c_1_R_12 c_1_R_13 l_1_R z_1_R o_1_S hb_1
  clear ii_2 kf_A kf_R fo_S
  skip
  refine (i37Copy h m d ys a5 a6 a7 a8 a9 a10 _ (by omega) (HY.out.in_ (by (repeat (first | exact In.refl _ | assumption | apply In.alloc | apply In.drewN | apply In.drew | (refine In.step ?_ (by assumption))))))).mono ?_
  rintro _ w_3 ⟨gE_3, cE_3, rfl, hoE_3, hgE_3, hb_3⟩
  have NE_S_E : Hid (gS_1 ≠ gE_3) := Lib.hid (by have h1 := hgE_3; (try simp at h1); have h2 := OwnC.lt o_2_S; omega)
  have GX_E : Hid (w.heap.size ≤ gE_3) := Lib.hid (by have h1 := hgE_3; (try simp at h1); have h2 := In.size i_2; omega)
  have o_3_E : OCEvent w_3 gE_3 (m) cE_3 ys := hoE_3
  clear hoE_3 hgE_3
  have i_3 : In w.heap.size w w_3 := In.step (by (repeat (first | exact In.refl _ | assumption | apply In.alloc | apply In.drewN | apply In.drew | (refine In.step ?_ (by assumption))))) hb_3
  have k_3_A : Blk w_3 b_A 45 #[.slice (some ⟨gS_1, 0, none⟩) n cS_1, .int .i64 a0, .int .i64 a1, .int .i64 a2, .int .i64 a3, .int .i64 a4, .slice (some ⟨h, 0, none⟩) m d, .int .i64 a5, .int .i64 a6, .int .i64 a7, .int .i64 a8, .int .i64 a9, .int .i64 a10, .int .i64 a11] := Blk.step (by (with_reducible (repeat (first | assumption | exact Blk.new' (by simp) | apply Blk.drewN | apply Blk.drew | apply Blk.alloc | (refine Blk.far ?_ (by (try simp) <;> omega) _))))) hb_3
  obtain ⟨c_3_A_0, c_3_A_1, c_3_A_2, c_3_A_3, c_3_A_4, c_3_A_5, c_3_A_6, c_3_A_7, c_3_A_8, c_3_A_9, c_3_A_10, c_3_A_11, c_3_A_12, c_3_A_13⟩ := cells14 k_3_A
  have l_3_A := k_3_A.lt
  have z_3_A := k_3_A.frozen
  have k_3_R : Blk w_3 b_R 45 #[.slice none 0 0, .int .i64 0, .int .i64 0, .int .i64 0, .int .i64 0, .int .i64 0, .slice none 0 0, .int .i64 0, .int .i64 0, .int .i64 0, .int .i64 0, .int .i64 0, .int .i64 0, .int .i64 0] := Blk.step (by (with_reducible (repeat (first | assumption | exact Blk.new' (by simp) | apply Blk.drewN | apply Blk.drew | apply Blk.alloc | (refine Blk.far ?_ (by (try simp) <;> omega) _))))) hb_3
  obtain ⟨c_3_R_0, c_3_R_1, c_3_R_2, c_3_R_3, c_3_R_4, c_3_R_5, c_3_R_6, c_3_R_7, c_3_R_8, c_3_R_9, c_3_R_10, c_3_R_11, c_3_R_12, c_3_R_13⟩ := cells14 k_3_R
  have l_3_R := k_3_R.lt
  have z_3_R := k_3_R.frozen
  have o_3_S : OwnC w_3 gS_1 (n) cS_1 xs := OwnC.step (by with_reducible (repeat (first | assumption | apply OwnC.drewN | apply OwnC.drew | apply OwnC.alloc))) hb_3
  clear i_2 k_2_A c_2_A_0 c_2_A_1 c_2_A_2 c_2_A_3 c_2_A_4 c_2_A_5 c_2_A_6 c_2_A_7 c_2_A_8 c_2_A_9 c_2_A_10 c_2_A_11 c_2_A_12 c_2_A_13 l_2_A z_2_A k_2_R c_2_R_0 c_2_R_1 c_2_R_2 c_2_R_3 c_2_R_4 c_2_R_5 c_2_R_6 c_2_R_7 c_2_R_8 c_2_R_9 c_2_R_10 c_2_R_11 c_2_R_12 c_2_R_13 l_2_R z_2_R o_2_S
  have hn1_A_R : b_R ≠ b_A := by first | exact NB_R_A.out | exact NB_A_R.out.symm
  have hn2_A_R : b_A ≠ b_R := hn1_A_R.symm
  have hn1_R_A : b_A ≠ b_R := by first | exact NB_A_R.out | exact NB_R_A.out.symm
  have hn2_R_A : b_R ≠ b_A := hn1_R_A.symm
  have kk : Blk (((((((((((((((((((((w_3.setCell ⟨b_A, 6, none⟩ (.slice (some ⟨gE_3, 0, none⟩) m cE_3)).setCell ⟨b_A, 7, none⟩ (.int .i64 a5)).setCell ⟨b_A, 8, none⟩ (.int .i64 a6)).setCell ⟨b_A, 9, none⟩ (.int .i64 a7)).setCell ⟨b_A, 10, none⟩ (.int .i64 a8)).setCell ⟨b_A, 11, none⟩ (.int .i64 a9)).setCell ⟨b_A, 12, none⟩ (.int .i64 a10)).setCell ⟨b_R, 0, none⟩ (.slice (some ⟨gS_1, 0, none⟩) n cS_1)).setCell ⟨b_R, 1, none⟩ (.int .i64 a0)).setCell ⟨b_R, 2, none⟩ (.int .i64 a1)).setCell ⟨b_R, 3, none⟩ (.int .i64 a2)).setCell ⟨b_R, 4, none⟩ (.int .i64 a3)).setCell ⟨b_R, 5, none⟩ (.int .i64 a4)).setCell ⟨b_R, 6, none⟩ (.slice (some ⟨gE_3, 0, none⟩) m cE_3)).setCell ⟨b_R, 7, none⟩ (.int .i64 a5)).setCell ⟨b_R, 8, none⟩ (.int .i64 a6)).setCell ⟨b_R, 9, none⟩ (.int .i64 a7)).setCell ⟨b_R, 10, none⟩ (.int .i64 a8)).setCell ⟨b_R, 11, none⟩ (.int .i64 a9)).setCell ⟨b_R, 12, none⟩ (.int .i64 a10)).setCell ⟨b_R, 13, none⟩ (.int .i64 a11)) b_R 45 #[.slice (some ⟨gS_1, 0, none⟩) n cS_1, .int .i64 a0, .int .i64 a1, .int .i64 a2, .int .i64 a3, .int .i64 a4, .slice (some ⟨gE_3, 0, none⟩) m cE_3, .int .i64 a5, .int .i64 a6, .int .i64 a7, .int .i64 a8, .int .i64 a9, .int .i64 a10, .int .i64 a11] := by
    have h := (((((((((((((((Blk.far (Blk.far (Blk.far (Blk.far (Blk.far (Blk.far (Blk.far k_3_R (p := ⟨b_A, 6, none⟩) (by first | exact NB_R_A.out | exact NB_A_R.out.symm) (.slice (some ⟨gE_3, 0, none⟩) m cE_3)) (p := ⟨b_A, 7, none⟩) (by first | exact NB_R_A.out | exact NB_A_R.out.symm) (.int .i64 a5)) (p := ⟨b_A, 8, none⟩) (by first | exact NB_R_A.out | exact NB_A_R.out.symm) (.int .i64 a6)) (p := ⟨b_A, 9, none⟩) (by first | exact NB_R_A.out | exact NB_A_R.out.symm) (.int .i64 a7)) (p := ⟨b_A, 10, none⟩) (by first | exact NB_R_A.out | exact NB_A_R.out.symm) (.int .i64 a8)) (p := ⟨b_A, 11, none⟩) (by first | exact NB_R_A.out | exact NB_A_R.out.symm) (.int .i64 a9)) (p := ⟨b_A, 12, none⟩) (by first | exact NB_R_A.out | exact NB_A_R.out.symm) (.int .i64 a10)).set_ 0 (.slice (some ⟨gS_1, 0, none⟩) n cS_1)).set_ 1 (.int .i64 a0)).set_ 2 (.int .i64 a1)).set_ 3 (.int .i64 a2)).set_ 4 (.int .i64 a3)).set_ 5 (.int .i64 a4)).set_ 6 (.slice (some ⟨gE_3, 0, none⟩) m cE_3)).set_ 7 (.int .i64 a5)).set_ 8 (.int .i64 a6)).set_ 9 (.int .i64 a7)).set_ 10 (.int .i64 a8)).set_ 11 (.int .i64 a9)).set_ 12 (.int .i64 a10)).set_ 13 (.int .i64 a11))
    simpa using h
  have i9 : In w.heap.size w (((((((((((((((((((((w_3.setCell ⟨b_A, 6, none⟩ (.slice (some ⟨gE_3, 0, none⟩) m cE_3)).setCell ⟨b_A, 7, none⟩ (.int .i64 a5)).setCell ⟨b_A, 8, none⟩ (.int .i64 a6)).setCell ⟨b_A, 9, none⟩ (.int .i64 a7)).setCell ⟨b_A, 10, none⟩ (.int .i64 a8)).setCell ⟨b_A, 11, none⟩ (.int .i64 a9)).setCell ⟨b_A, 12, none⟩ (.int .i64 a10)).setCell ⟨b_R, 0, none⟩ (.slice (some ⟨gS_1, 0, none⟩) n cS_1)).setCell ⟨b_R, 1, none⟩ (.int .i64 a0)).setCell ⟨b_R, 2, none⟩ (.int .i64 a1)).setCell ⟨b_R, 3, none⟩ (.int .i64 a2)).setCell ⟨b_R, 4, none⟩ (.int .i64 a3)).setCell ⟨b_R, 5, none⟩ (.int .i64 a4)).setCell ⟨b_R, 6, none⟩ (.slice (some ⟨gE_3, 0, none⟩) m cE_3)).setCell ⟨b_R, 7, none⟩ (.int .i64 a5)).setCell ⟨b_R, 8, none⟩ (.int .i64 a6)).setCell ⟨b_R, 9, none⟩ (.int .i64 a7)).setCell ⟨b_R, 10, none⟩ (.int .i64 a8)).setCell ⟨b_R, 11, none⟩ (.int .i64 a9)).setCell ⟨b_R, 12, none⟩ (.int .i64 a10)).setCell ⟨b_R, 13, none⟩ (.int .i64 a11)) := (In.set_ (In.set_ (In.set_ (In.set_ (In.set_ (In.set_ (In.set_ (In.set_ (In.set_ (In.set_ (In.set_ (In.set_ (In.set_ (In.set_ (In.set_ (In.set_ (In.set_ (In.set_ (In.set_ (In.set_ (In.set_ i_3 (p := ⟨b_A, 6, none⟩) hwb_A (.slice (some ⟨gE_3, 0, none⟩) m cE_3)) (p := ⟨b_A, 7, none⟩) hwb_A (.int .i64 a5)) (p := ⟨b_A, 8, none⟩) hwb_A (.int .i64 a6)) (p := ⟨b_A, 9, none⟩) hwb_A (.int .i64 a7)) (p := ⟨b_A, 10, none⟩) hwb_A (.int .i64 a8)) (p := ⟨b_A, 11, none⟩) hwb_A (.int .i64 a9)) (p := ⟨b_A, 12, none⟩) hwb_A (.int .i64 a10)) (p := ⟨b_R, 0, none⟩) hwb_R (.slice (some ⟨gS_1, 0, none⟩) n cS_1)) (p := ⟨b_R, 1, none⟩) hwb_R (.int .i64 a0)) (p := ⟨b_R, 2, none⟩) hwb_R (.int .i64 a1)) (p := ⟨b_R, 3, none⟩) hwb_R (.int .i64 a2)) (p := ⟨b_R, 4, none⟩) hwb_R (.int .i64 a3)) (p := ⟨b_R, 5, none⟩) hwb_R (.int .i64 a4)) (p := ⟨b_R, 6, none⟩) hwb_R (.slice (some ⟨gE_3, 0, none⟩) m cE_3)) (p := ⟨b_R, 7, none⟩) hwb_R (.int .i64 a5)) (p := ⟨b_R, 8, none⟩) hwb_R (.int .i64 a6)) (p := ⟨b_R, 9, none⟩) hwb_R (.int .i64 a7)) (p := ⟨b_R, 10, none⟩) hwb_R (.int .i64 a8)) (p := ⟨b_R, 11, none⟩) hwb_R (.int .i64 a9)) (p := ⟨b_R, 12, none⟩) hwb_R (.int .i64 a10)) (p := ⟨b_R, 13, none⟩) hwb_R (.int .i64 a11))
  have OS : Hid (OwnC (((((((((((((((((((((w_3.setCell ⟨b_A, 6, none⟩ (.slice (some ⟨gE_3, 0, none⟩) m cE_3)).setCell ⟨b_A, 7, none⟩ (.int .i64 a5)).setCell ⟨b_A, 8, none⟩ (.int .i64 a6)).setCell ⟨b_A, 9, none⟩ (.int .i64 a7)).setCell ⟨b_A, 10, none⟩ (.int .i64 a8)).setCell ⟨b_A, 11, none⟩ (.int .i64 a9)).setCell ⟨b_A, 12, none⟩ (.int .i64 a10)).setCell ⟨b_R, 0, none⟩ (.slice (some ⟨gS_1, 0, none⟩) n cS_1)).setCell ⟨b_R, 1, none⟩ (.int .i64 a0)).setCell ⟨b_R, 2, none⟩ (.int .i64 a1)).setCell ⟨b_R, 3, none⟩ (.int .i64 a2)).setCell ⟨b_R, 4, none⟩ (.int .i64 a3)).setCell ⟨b_R, 5, none⟩ (.int .i64 a4)).setCell ⟨b_R, 6, none⟩ (.slice (some ⟨gE_3, 0, none⟩) m cE_3)).setCell ⟨b_R, 7, none⟩ (.int .i64 a5)).setCell ⟨b_R, 8, none⟩ (.int .i64 a6)).setCell ⟨b_R, 9, none⟩ (.int .i64 a7)).setCell ⟨b_R, 10, none⟩ (.int .i64 a8)).setCell ⟨b_R, 11, none⟩ (.int .i64 a9)).setCell ⟨b_R, 12, none⟩ (.int .i64 a10)).setCell ⟨b_R, 13, none⟩ (.int .i64 a11)) gS_1 (n) cS_1 xs) := Lib.hid (OwnC.far (OwnC.far o_3_S k_3_A (by decide) only7) (Blk.grown k_3_R only7 (fun h => (show b_R ≠ b_A by first | exact NB_R_A.out | exact NB_A_R.out.symm) (Option.some.inj h))) (by decide) only14)
  have OE : Hid (OCEvent (((((((((((((((((((((w_3.setCell ⟨b_A, 6, none⟩ (.slice (some ⟨gE_3, 0, none⟩) m cE_3)).setCell ⟨b_A, 7, none⟩ (.int .i64 a5)).setCell ⟨b_A, 8, none⟩ (.int .i64 a6)).setCell ⟨b_A, 9, none⟩ (.int .i64 a7)).setCell ⟨b_A, 10, none⟩ (.int .i64 a8)).setCell ⟨b_A, 11, none⟩ (.int .i64 a9)).setCell ⟨b_A, 12, none⟩ (.int .i64 a10)).setCell ⟨b_R, 0, none⟩ (.slice (some ⟨gS_1, 0, none⟩) n cS_1)).setCell ⟨b_R, 1, none⟩ (.int .i64 a0)).setCell ⟨b_R, 2, none⟩ (.int .i64 a1)).setCell ⟨b_R, 3, none⟩ (.int .i64 a2)).setCell ⟨b_R, 4, none⟩ (.int .i64 a3)).setCell ⟨b_R, 5, none⟩ (.int .i64 a4)).setCell ⟨b_R, 6, none⟩ (.slice (some ⟨gE_3, 0, none⟩) m cE_3)).setCell ⟨b_R, 7, none⟩ (.int .i64 a5)).setCell ⟨b_R, 8, none⟩ (.int .i64 a6)).setCell ⟨b_R, 9, none⟩ (.int .i64 a7)).setCell ⟨b_R, 10, none⟩ (.int .i64 a8)).setCell ⟨b_R, 11, none⟩ (.int .i64 a9)).setCell ⟨b_R, 12, none⟩ (.int .i64 a10)).setCell ⟨b_R, 13, none⟩ (.int .i64 a11)) gE_3 (m) cE_3 ys) := Lib.hid (OCEvent.far (OCEvent.far o_3_E k_3_A (by decide) only7) (Blk.grown k_3_R only7 (fun h => (show b_R ≠ b_A by first | exact NB_R_A.out | exact NB_A_R.out.symm) (Option.some.inj h))) (by decide) only14)
  have HK0 : Hid ((_ : World).cell? ⟨b_R, 0, none⟩ = some (.slice (some ⟨gS_1, 0, none⟩) n cS_1)) := Lib.hid (kk.cell 0)
  have HK1 : Hid ((_ : World).cell? ⟨b_R, 1, none⟩ = some (.int .i64 a0)) := Lib.hid (kk.cell 1)
  have HK2 : Hid ((_ : World).cell? ⟨b_R, 2, none⟩ = some (.int .i64 a1)) := Lib.hid (kk.cell 2)
  have HK3 : Hid ((_ : World).cell? ⟨b_R, 3, none⟩ = some (.int .i64 a2)) := Lib.hid (kk.cell 3)
  have HK4 : Hid ((_ : World).cell? ⟨b_R, 4, none⟩ = some (.int .i64 a3)) := Lib.hid (kk.cell 4)
  have HK5 : Hid ((_ : World).cell? ⟨b_R, 5, none⟩ = some (.int .i64 a4)) := Lib.hid (kk.cell 5)
  have HK6 : Hid ((_ : World).cell? ⟨b_R, 6, none⟩ = some (.slice (some ⟨gE_3, 0, none⟩) m cE_3)) := Lib.hid (kk.cell 6)
  have HK7 : Hid ((_ : World).cell? ⟨b_R, 7, none⟩ = some (.int .i64 a5)) := Lib.hid (kk.cell 7)
  have HK8 : Hid ((_ : World).cell? ⟨b_R, 8, none⟩ = some (.int .i64 a6)) := Lib.hid (kk.cell 8)
  have HK9 : Hid ((_ : World).cell? ⟨b_R, 9, none⟩ = some (.int .i64 a7)) := Lib.hid (kk.cell 9)
  have HK10 : Hid ((_ : World).cell? ⟨b_R, 10, none⟩ = some (.int .i64 a8)) := Lib.hid (kk.cell 10)
  have HK11 : Hid ((_ : World).cell? ⟨b_R, 11, none⟩ = some (.int .i64 a9)) := Lib.hid (kk.cell 11)
  have HK12 : Hid ((_ : World).cell? ⟨b_R, 12, none⟩ = some (.int .i64 a10)) := Lib.hid (kk.cell 12)
  have HK13 : Hid ((_ : World).cell? ⟨b_R, 13, none⟩ = some (.int .i64 a11)) := Lib.hid (kk.cell 13)
  clear kk
  clear o_3_S o_3_E
  go_wp2
  have hk0 := HK0.out
  have hk1 := HK1.out
  have hk2 := HK2.out
  have hk3 := HK3.out
  have hk4 := HK4.out
  have hk5 := HK5.out
  have hk6 := HK6.out
  have hk7 := HK7.out
  have hk8 := HK8.out
  have hk9 := HK9.out
  have hk10 := HK10.out
  have hk11 := HK11.out
  have hk12 := HK12.out
  have hk13 := HK13.out
  exact bodyPost_ret (v := .agg #[.slice (some ⟨gS_1, 0, none⟩) n cS_1, .int .i64 a0, .int .i64 a1, .int .i64 a2, .int .i64 a3, .int .i64 a4, .slice (some ⟨gE_3, 0, none⟩) m cE_3, .int .i64 a5, .int .i64 a6, .int .i64 a7, .int .i64 a8, .int .i64 a9, .int .i64 a10, .int .i64 a11]) (by simp [results, Try.results96, go_sem, hk0, hk1, hk2, hk3, hk4, hk5, hk6, hk7, hk8, hk9, hk10, hk11, hk12, hk13]) rfl (⟨gS_1, cS_1, gE_3, cE_3, rfl, OS.out, GX_S.out, OE.out, GX_E.out, i9.below⟩)
end Go.Proofs.Ytmcfghklfkmfkaa
