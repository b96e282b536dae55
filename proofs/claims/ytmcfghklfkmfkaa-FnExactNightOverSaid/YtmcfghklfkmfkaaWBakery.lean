/- Bakery: the helpers of the laws by contract. -/
import Derived.Test.YtmcfghklfkmfkaaWBook
import Derived.Test.YtmcfghklfkmfkaaWStock
import Derived.Test.YtmcfghklfkmfkaaSLoaf
namespace Go.Proofs.Ytmcfghklfkmfkaa
open Go.ChangeShapes Go.WideShapes Go.ChangeAt Go.RowKit
set_option linter.unusedVariables false
set_option linter.unusedSimpArgs false
set_option maxHeartbeats 2000000

set_option maxHeartbeats 8000000 in
theorem toBakery_w (A : Option Addr) (n c : Nat) (xs : List Int) (B : Option Addr) (m d : Nat) (ys : List EventR) (a0 a1 a2 a3 a4 a5 a6 a7 a8 a9 a10 a11 : Int) (w : World) (hn : (n : Int) ≤ 10000000) (hm : (m : Int) ≤ 10000000) (hx : ReadsI w A n xs) (hy : ReadsEvent w B m ys) :
    Calls Try.prog 10 #[.agg #[.slice A n c, .int .i64 a0, .int .i64 a1, .int .i64 a2, .int .i64 a3, .int .i64 a4, .slice B m d, .int .i64 a5, .int .i64 a6, .int .i64 a7, .int .i64 a8, .int .i64 a9, .int .i64 a10, .int .i64 a11]] w (fun e' w' => ∃ g h, e' = .returned (.agg #[.slice (some ⟨g, 0, none⟩) n n, .int .i64 a0, .int .i64 a1, .int .i64 a2, .int .i64 a3, .int .i64 a4, .slice (some ⟨h, 0, none⟩) m m, .int .i64 a5, .int .i64 a6, .int .i64 a7, .int .i64 a8, .int .i64 a9, .int .i64 a10, .int .i64 a11]) ∧ OwnC w' g n n xs ∧ w.heap.size ≤ g ∧ OCEvent w' h m m ys ∧ w.heap.size ≤ h ∧ Below w.heap.size w w') := by
  have HX := Lib.hid hx
  have HY := Lib.hid hy
  clear hx hy
  obtain ⟨b_A, hbx_A⟩ : ∃ b, b = w.heap.size := ⟨_, rfl⟩
  have kk_A : Blk (((w.alloc (.cells #[.slice A n c, .int .i64 a0, .int .i64 a1, .int .i64 a2, .int .i64 a3, .int .i64 a4, .slice B m d, .int .i64 a5, .int .i64 a6, .int .i64 a7, .int .i64 a8, .int .i64 a9, .int .i64 a10, .int .i64 a11] 35)).alloc (.cells #[.slice none 0 0, .int .i64 0, .int .i64 0, .int .i64 0, .int .i64 0, .int .i64 0, .slice none 0 0, .int .i64 0, .int .i64 0, .int .i64 0, .int .i64 0, .int .i64 0, .int .i64 0, .int .i64 0] 45)).alloc (.cells #[.slice none 0 0, .int .i64 0, .int .i64 0, .int .i64 0, .int .i64 0, .int .i64 0, .slice none 0 0, .int .i64 0, .int .i64 0, .int .i64 0, .int .i64 0, .int .i64 0, .int .i64 0, .int .i64 0] 45)) b_A 35 #[.slice A n c, .int .i64 a0, .int .i64 a1, .int .i64 a2, .int .i64 a3, .int .i64 a4, .slice B m d, .int .i64 a5, .int .i64 a6, .int .i64 a7, .int .i64 a8, .int .i64 a9, .int .i64 a10, .int .i64 a11] := (((Blk.new' (w := w) (t := 35) (cs := #[.slice A n c, .int .i64 a0, .int .i64 a1, .int .i64 a2, .int .i64 a3, .int .i64 a4, .slice B m d, .int .i64 a5, .int .i64 a6, .int .i64 a7, .int .i64 a8, .int .i64 a9, .int .i64 a10, .int .i64 a11]) (g := b_A) (by simp [hbx_A])).alloc (.cells #[.slice none 0 0, .int .i64 0, .int .i64 0, .int .i64 0, .int .i64 0, .int .i64 0, .slice none 0 0, .int .i64 0, .int .i64 0, .int .i64 0, .int .i64 0, .int .i64 0, .int .i64 0, .int .i64 0] 45)).alloc (.cells #[.slice none 0 0, .int .i64 0, .int .i64 0, .int .i64 0, .int .i64 0, .int .i64 0, .slice none 0 0, .int .i64 0, .int .i64 0, .int .i64 0, .int .i64 0, .int .i64 0, .int .i64 0, .int .i64 0] 45))
  have hwb_A : w.heap.size ≤ b_A := by omega
  obtain ⟨b_R, hbx_R⟩ : ∃ b, b = w.heap.size + 1 := ⟨_, rfl⟩
  have kk_R : Blk (((w.alloc (.cells #[.slice A n c, .int .i64 a0, .int .i64 a1, .int .i64 a2, .int .i64 a3, .int .i64 a4, .slice B m d, .int .i64 a5, .int .i64 a6, .int .i64 a7, .int .i64 a8, .int .i64 a9, .int .i64 a10, .int .i64 a11] 35)).alloc (.cells #[.slice none 0 0, .int .i64 0, .int .i64 0, .int .i64 0, .int .i64 0, .int .i64 0, .slice none 0 0, .int .i64 0, .int .i64 0, .int .i64 0, .int .i64 0, .int .i64 0, .int .i64 0, .int .i64 0] 45)).alloc (.cells #[.slice none 0 0, .int .i64 0, .int .i64 0, .int .i64 0, .int .i64 0, .int .i64 0, .slice none 0 0, .int .i64 0, .int .i64 0, .int .i64 0, .int .i64 0, .int .i64 0, .int .i64 0, .int .i64 0] 45)) b_R 45 #[.slice none 0 0, .int .i64 0, .int .i64 0, .int .i64 0, .int .i64 0, .int .i64 0, .slice none 0 0, .int .i64 0, .int .i64 0, .int .i64 0, .int .i64 0, .int .i64 0, .int .i64 0, .int .i64 0] := ((Blk.new' (w := (w.alloc (.cells #[.slice A n c, .int .i64 a0, .int .i64 a1, .int .i64 a2, .int .i64 a3, .int .i64 a4, .slice B m d, .int .i64 a5, .int .i64 a6, .int .i64 a7, .int .i64 a8, .int .i64 a9, .int .i64 a10, .int .i64 a11] 35))) (t := 45) (cs := #[.slice none 0 0, .int .i64 0, .int .i64 0, .int .i64 0, .int .i64 0, .int .i64 0, .slice none 0 0, .int .i64 0, .int .i64 0, .int .i64 0, .int .i64 0, .int .i64 0, .int .i64 0, .int .i64 0]) (g := b_R) (by simp [hbx_R])).alloc (.cells #[.slice none 0 0, .int .i64 0, .int .i64 0, .int .i64 0, .int .i64 0, .int .i64 0, .slice none 0 0, .int .i64 0, .int .i64 0, .int .i64 0, .int .i64 0, .int .i64 0, .int .i64 0, .int .i64 0] 45))
  have hwb_R : w.heap.size ≤ b_R := by omega
  obtain ⟨b_O, hbx_O⟩ : ∃ b, b = w.heap.size + 1 + 1 := ⟨_, rfl⟩
  have kk_O : Blk (((w.alloc (.cells #[.slice A n c, .int .i64 a0, .int .i64 a1, .int .i64 a2, .int .i64 a3, .int .i64 a4, .slice B m d, .int .i64 a5, .int .i64 a6, .int .i64 a7, .int .i64 a8, .int .i64 a9, .int .i64 a10, .int .i64 a11] 35)).alloc (.cells #[.slice none 0 0, .int .i64 0, .int .i64 0, .int .i64 0, .int .i64 0, .int .i64 0, .slice none 0 0, .int .i64 0, .int .i64 0, .int .i64 0, .int .i64 0, .int .i64 0, .int .i64 0, .int .i64 0] 45)).alloc (.cells #[.slice none 0 0, .int .i64 0, .int .i64 0, .int .i64 0, .int .i64 0, .int .i64 0, .slice none 0 0, .int .i64 0, .int .i64 0, .int .i64 0, .int .i64 0, .int .i64 0, .int .i64 0, .int .i64 0] 45)) b_O 45 #[.slice none 0 0, .int .i64 0, .int .i64 0, .int .i64 0, .int .i64 0, .int .i64 0, .slice none 0 0, .int .i64 0, .int .i64 0, .int .i64 0, .int .i64 0, .int .i64 0, .int .i64 0, .int .i64 0] := (Blk.new' (w := ((w.alloc (.cells #[.slice A n c, .int .i64 a0, .int .i64 a1, .int .i64 a2, .int .i64 a3, .int .i64 a4, .slice B m d, .int .i64 a5, .int .i64 a6, .int .i64 a7, .int .i64 a8, .int .i64 a9, .int .i64 a10, .int .i64 a11] 35)).alloc (.cells #[.slice none 0 0, .int .i64 0, .int .i64 0, .int .i64 0, .int .i64 0, .int .i64 0, .slice none 0 0, .int .i64 0, .int .i64 0, .int .i64 0, .int .i64 0, .int .i64 0, .int .i64 0, .int .i64 0] 45))) (t := 45) (cs := #[.slice none 0 0, .int .i64 0, .int .i64 0, .int .i64 0, .int .i64 0, .int .i64 0, .slice none 0 0, .int .i64 0, .int .i64 0, .int .i64 0, .int .i64 0, .int .i64 0, .int .i64 0, .int .i64 0]) (g := b_O) (by simp [hbx_O]))
  have hwb_O : w.heap.size ≤ b_O := by omega
  have NB_A_R : Hid (b_A ≠ b_R) := Lib.hid (by omega)
  have NB_A_O : Hid (b_A ≠ b_O) := Lib.hid (by omega)
  have NB_R_O : Hid (b_R ≠ b_O) := Lib.hid (by omega)
  have hb_0 : Below w.heap.size w (((w.alloc (.cells #[.slice A n c, .int .i64 a0, .int .i64 a1, .int .i64 a2, .int .i64 a3, .int .i64 a4, .slice B m d, .int .i64 a5, .int .i64 a6, .int .i64 a7, .int .i64 a8, .int .i64 a9, .int .i64 a10, .int .i64 a11] 35)).alloc (.cells #[.slice none 0 0, .int .i64 0, .int .i64 0, .int .i64 0, .int .i64 0, .int .i64 0, .slice none 0 0, .int .i64 0, .int .i64 0, .int .i64 0, .int .i64 0, .int .i64 0, .int .i64 0, .int .i64 0] 45)).alloc (.cells #[.slice none 0 0, .int .i64 0, .int .i64 0, .int .i64 0, .int .i64 0, .int .i64 0, .slice none 0 0, .int .i64 0, .int .i64 0, .int .i64 0, .int .i64 0, .int .i64 0, .int .i64 0, .int .i64 0] 45)) := by
    have h : In w.heap.size w (((w.alloc (.cells #[.slice A n c, .int .i64 a0, .int .i64 a1, .int .i64 a2, .int .i64 a3, .int .i64 a4, .slice B m d, .int .i64 a5, .int .i64 a6, .int .i64 a7, .int .i64 a8, .int .i64 a9, .int .i64 a10, .int .i64 a11] 35)).alloc (.cells #[.slice none 0 0, .int .i64 0, .int .i64 0, .int .i64 0, .int .i64 0, .int .i64 0, .slice none 0 0, .int .i64 0, .int .i64 0, .int .i64 0, .int .i64 0, .int .i64 0, .int .i64 0, .int .i64 0] 45)).alloc (.cells #[.slice none 0 0, .int .i64 0, .int .i64 0, .int .i64 0, .int .i64 0, .int .i64 0, .slice none 0 0, .int .i64 0, .int .i64 0, .int .i64 0, .int .i64 0, .int .i64 0, .int .i64 0, .int .i64 0] 45)) := by (repeat (first | exact In.refl _ | assumption | apply In.alloc | apply In.drewN | apply In.drew | (refine In.step ?_ (by assumption))))
    exact h.below
  have hsz_0 : (((w.alloc (.cells #[.slice A n c, .int .i64 a0, .int .i64 a1, .int .i64 a2, .int .i64 a3, .int .i64 a4, .slice B m d, .int .i64 a5, .int .i64 a6, .int .i64 a7, .int .i64 a8, .int .i64 a9, .int .i64 a10, .int .i64 a11] 35)).alloc (.cells #[.slice none 0 0, .int .i64 0, .int .i64 0, .int .i64 0, .int .i64 0, .int .i64 0, .slice none 0 0, .int .i64 0, .int .i64 0, .int .i64 0, .int .i64 0, .int .i64 0, .int .i64 0, .int .i64 0] 45)).alloc (.cells #[.slice none 0 0, .int .i64 0, .int .i64 0, .int .i64 0, .int .i64 0, .int .i64 0, .slice none 0 0, .int .i64 0, .int .i64 0, .int .i64 0, .int .i64 0, .int .i64 0, .int .i64 0, .int .i64 0] 45)).heap.size = b_O + 1 := by simp [hbx_O]
  go_enter Try.func10, Try.ntmps10
  go_wp2_with fail
  rw [← hbx_O]
  clear hbx_O
  rw [← hbx_R]
  clear hbx_R
  rw [← hbx_A]
  clear hbx_A
  generalize (((w.alloc (.cells #[.slice A n c, .int .i64 a0, .int .i64 a1, .int .i64 a2, .int .i64 a3, .int .i64 a4, .slice B m d, .int .i64 a5, .int .i64 a6, .int .i64 a7, .int .i64 a8, .int .i64 a9, .int .i64 a10, .int .i64 a11] 35)).alloc (.cells #[.slice none 0 0, .int .i64 0, .int .i64 0, .int .i64 0, .int .i64 0, .int .i64 0, .slice none 0 0, .int .i64 0, .int .i64 0, .int .i64 0, .int .i64 0, .int .i64 0, .int .i64 0, .int .i64 0] 45)).alloc (.cells #[.slice none 0 0, .int .i64 0, .int .i64 0, .int .i64 0, .int .i64 0, .int .i64 0, .slice none 0 0, .int .i64 0, .int .i64 0, .int .i64 0, .int .i64 0, .int .i64 0, .int .i64 0, .int .i64 0] 45)) = w_0 at *
  have i_0 : In w.heap.size w w_0 := In.step (by (repeat (first | exact In.refl _ | assumption | apply In.alloc | apply In.drewN | apply In.drew | (refine In.step ?_ (by assumption))))) hb_0
  have k_0_A : Blk w_0 b_A 35 #[.slice A n c, .int .i64 a0, .int .i64 a1, .int .i64 a2, .int .i64 a3, .int .i64 a4, .slice B m d, .int .i64 a5, .int .i64 a6, .int .i64 a7, .int .i64 a8, .int .i64 a9, .int .i64 a10, .int .i64 a11] := kk_A
  obtain ⟨c_0_A_0, c_0_A_1, c_0_A_2, c_0_A_3, c_0_A_4, c_0_A_5, c_0_A_6, c_0_A_7, c_0_A_8, c_0_A_9, c_0_A_10, c_0_A_11, c_0_A_12, c_0_A_13⟩ := cells14 k_0_A
  have l_0_A := k_0_A.lt
  have k_0_R : Blk w_0 b_R 45 #[.slice none 0 0, .int .i64 0, .int .i64 0, .int .i64 0, .int .i64 0, .int .i64 0, .slice none 0 0, .int .i64 0, .int .i64 0, .int .i64 0, .int .i64 0, .int .i64 0, .int .i64 0, .int .i64 0] := kk_R
  obtain ⟨c_0_R_0, c_0_R_1, c_0_R_2, c_0_R_3, c_0_R_4, c_0_R_5, c_0_R_6, c_0_R_7, c_0_R_8, c_0_R_9, c_0_R_10, c_0_R_11, c_0_R_12, c_0_R_13⟩ := cells14 k_0_R
  have l_0_R := k_0_R.lt
  have z_0_R := k_0_R.frozen
  have k_0_O : Blk w_0 b_O 45 #[.slice none 0 0, .int .i64 0, .int .i64 0, .int .i64 0, .int .i64 0, .int .i64 0, .slice none 0 0, .int .i64 0, .int .i64 0, .int .i64 0, .int .i64 0, .int .i64 0, .int .i64 0, .int .i64 0] := kk_O
  obtain ⟨c_0_O_0, c_0_O_1, c_0_O_2, c_0_O_3, c_0_O_4, c_0_O_5, c_0_O_6, c_0_O_7, c_0_O_8, c_0_O_9, c_0_O_10, c_0_O_11, c_0_O_12, c_0_O_13⟩ := cells14 k_0_O
  have l_0_O := k_0_O.lt
  have z_0_O := k_0_O.frozen
  clear kk_A kk_R kk_O
  go_wp2_with fail
  refine (toStock_c A n c xs _ hn (HX.out.in_ (by (repeat (first | exact In.refl _ | assumption | apply In.alloc | apply In.drewN | apply In.drew | (refine In.step ?_ (by assumption))))))).mono ?_
  rintro _ w_1 ⟨gS_1, rfl, hoS_1, hgS_1, hb_1⟩
  have GX_S : Hid (w.heap.size ≤ gS_1) := Lib.hid (by have h1 := hgS_1; (try simp at h1); have h2 := In.size i_0; omega)
  have o_1_S : OwnC w_1 gS_1 (n) n xs := hoS_1
  clear hoS_1 hgS_1
  have i_1 : In w.heap.size w w_1 := In.step (by (repeat (first | exact In.refl _ | assumption | apply In.alloc | apply In.drewN | apply In.drew | (refine In.step ?_ (by assumption))))) hb_1
  have k_1_A : Blk w_1 b_A 35 #[.slice A n c, .int .i64 a0, .int .i64 a1, .int .i64 a2, .int .i64 a3, .int .i64 a4, .slice B m d, .int .i64 a5, .int .i64 a6, .int .i64 a7, .int .i64 a8, .int .i64 a9, .int .i64 a10, .int .i64 a11] := Blk.step (by (with_reducible (repeat (first | assumption | exact Blk.new' (by simp) | apply Blk.drewN | apply Blk.drew | apply Blk.alloc | (refine Blk.far ?_ (by (try simp) <;> omega) _))))) hb_1
  obtain ⟨c_1_A_0, c_1_A_1, c_1_A_2, c_1_A_3, c_1_A_4, c_1_A_5, c_1_A_6, c_1_A_7, c_1_A_8, c_1_A_9, c_1_A_10, c_1_A_11, c_1_A_12, c_1_A_13⟩ := cells14 k_1_A
  have l_1_A := k_1_A.lt
  have k_1_R : Blk w_1 b_R 45 #[.slice none 0 0, .int .i64 0, .int .i64 0, .int .i64 0, .int .i64 0, .int .i64 0, .slice none 0 0, .int .i64 0, .int .i64 0, .int .i64 0, .int .i64 0, .int .i64 0, .int .i64 0, .int .i64 0] := Blk.step (by (with_reducible (repeat (first | assumption | exact Blk.new' (by simp) | apply Blk.drewN | apply Blk.drew | apply Blk.alloc | (refine Blk.far ?_ (by (try simp) <;> omega) _))))) hb_1
  obtain ⟨c_1_R_0, c_1_R_1, c_1_R_2, c_1_R_3, c_1_R_4, c_1_R_5, c_1_R_6, c_1_R_7, c_1_R_8, c_1_R_9, c_1_R_10, c_1_R_11, c_1_R_12, c_1_R_13⟩ := cells14 k_1_R
  have l_1_R := k_1_R.lt
  have z_1_R := k_1_R.frozen
  have k_1_O : Blk w_1 b_O 45 #[.slice none 0 0, .int .i64 0, .int .i64 0, .int .i64 0, .int .i64 0, .int .i64 0, .slice none 0 0, .int .i64 0, .int .i64 0, .int .i64 0, .int .i64 0, .int .i64 0, .int .i64 0, .int .i64 0] := Blk.step (by (with_reducible (repeat (first | assumption | exact Blk.new' (by simp) | apply Blk.drewN | apply Blk.drew | apply Blk.alloc | (refine Blk.far ?_ (by (try simp) <;> omega) _))))) hb_1
  obtain ⟨c_1_O_0, c_1_O_1, c_1_O_2, c_1_O_3, c_1_O_4, c_1_O_5, c_1_O_6, c_1_O_7, c_1_O_8, c_1_O_9, c_1_O_10, c_1_O_11, c_1_O_12, c_1_O_13⟩ := cells14 k_1_O
  have l_1_O := k_1_O.lt
  have z_1_O := k_1_O.frozen
  clear i_0 k_0_A c_0_A_0 c_0_A_1 c_0_A_2 c_0_A_3 c_0_A_4 c_0_A_5 c_0_A_6 c_0_A_7 c_0_A_8 c_0_A_9 c_0_A_10 c_0_A_11 c_0_A_12 c_0_A_13 l_0_A k_0_R c_0_R_0 c_0_R_1 c_0_R_2 c_0_R_3 c_0_R_4 c_0_R_5 c_0_R_6 c_0_R_7 c_0_R_8 c_0_R_9 c_0_R_10 c_0_R_11 c_0_R_12 c_0_R_13 l_0_R z_0_R k_0_O c_0_O_0 c_0_O_1 c_0_O_2 c_0_O_3 c_0_O_4 c_0_O_5 c_0_O_6 c_0_O_7 c_0_O_8 c_0_O_9 c_0_O_10 c_0_O_11 c_0_O_12 c_0_O_13 l_0_O z_0_O hb_0
  have hn1_O_A : b_A ≠ b_O := by first | exact NB_A_O.out | exact NB_O_A.out.symm
  have hn2_O_A : b_O ≠ b_A := hn1_O_A.symm
  have hn1_O_R : b_R ≠ b_O := by first | exact NB_R_O.out | exact NB_O_R.out.symm
  have hn2_O_R : b_O ≠ b_R := hn1_O_R.symm
  go_wp2_with fail
  have kf_A : Blk (w_1.setCell ⟨b_O, 0, none⟩ (.slice (some ⟨gS_1, 0, none⟩) n n)) b_A 35 #[.slice A n c, .int .i64 a0, .int .i64 a1, .int .i64 a2, .int .i64 a3, .int .i64 a4, .slice B m d, .int .i64 a5, .int .i64 a6, .int .i64 a7, .int .i64 a8, .int .i64 a9, .int .i64 a10, .int .i64 a11] := by
    have h := (Blk.far k_1_A (p := ⟨b_O, 0, none⟩) (by first | exact NB_A_O.out | exact NB_O_A.out.symm) (.slice (some ⟨gS_1, 0, none⟩) n n))
    simpa using h
  have kf_R : Blk (w_1.setCell ⟨b_O, 0, none⟩ (.slice (some ⟨gS_1, 0, none⟩) n n)) b_R 45 #[.slice none 0 0, .int .i64 0, .int .i64 0, .int .i64 0, .int .i64 0, .int .i64 0, .slice none 0 0, .int .i64 0, .int .i64 0, .int .i64 0, .int .i64 0, .int .i64 0, .int .i64 0, .int .i64 0] := by
    have h := (Blk.far k_1_R (p := ⟨b_O, 0, none⟩) (by first | exact NB_R_O.out | exact NB_O_R.out.symm) (.slice (some ⟨gS_1, 0, none⟩) n n))
    simpa using h
  have kf_O : Blk (w_1.setCell ⟨b_O, 0, none⟩ (.slice (some ⟨gS_1, 0, none⟩) n n)) b_O 45 #[.slice (some ⟨gS_1, 0, none⟩) n n, .int .i64 0, .int .i64 0, .int .i64 0, .int .i64 0, .int .i64 0, .slice none 0 0, .int .i64 0, .int .i64 0, .int .i64 0, .int .i64 0, .int .i64 0, .int .i64 0, .int .i64 0] := by
    have h := (k_1_O.set_ 0 (.slice (some ⟨gS_1, 0, none⟩) n n))
    simpa using h
  have fo_S : OwnC (w_1.setCell ⟨b_O, 0, none⟩ (.slice (some ⟨gS_1, 0, none⟩) n n)) gS_1 (n) n xs := (OwnC.far o_1_S k_1_O (by decide) (only_set ⟨b_O, 0, none⟩ (.slice (some ⟨gS_1, 0, none⟩) n n)))
  have ii_2 : In w.heap.size w (w_1.setCell ⟨b_O, 0, none⟩ (.slice (some ⟨gS_1, 0, none⟩) n n)) := (In.set_ i_1 (p := ⟨b_O, 0, none⟩) hwb_O (.slice (some ⟨gS_1, 0, none⟩) n n))
  generalize (w_1.setCell ⟨b_O, 0, none⟩ (.slice (some ⟨gS_1, 0, none⟩) n n)) = w_2 at *
  clear hn1_O_A hn2_O_A hn1_O_R hn2_O_R
  have i_2 : In w.heap.size w w_2 := ii_2
  have k_2_A : Blk w_2 b_A 35 #[.slice A n c, .int .i64 a0, .int .i64 a1, .int .i64 a2, .int .i64 a3, .int .i64 a4, .slice B m d, .int .i64 a5, .int .i64 a6, .int .i64 a7, .int .i64 a8, .int .i64 a9, .int .i64 a10, .int .i64 a11] := kf_A
  obtain ⟨c_2_A_0, c_2_A_1, c_2_A_2, c_2_A_3, c_2_A_4, c_2_A_5, c_2_A_6, c_2_A_7, c_2_A_8, c_2_A_9, c_2_A_10, c_2_A_11, c_2_A_12, c_2_A_13⟩ := cells14 k_2_A
  have l_2_A := k_2_A.lt
  have k_2_R : Blk w_2 b_R 45 #[.slice none 0 0, .int .i64 0, .int .i64 0, .int .i64 0, .int .i64 0, .int .i64 0, .slice none 0 0, .int .i64 0, .int .i64 0, .int .i64 0, .int .i64 0, .int .i64 0, .int .i64 0, .int .i64 0] := kf_R
  obtain ⟨c_2_R_0, c_2_R_1, c_2_R_2, c_2_R_3, c_2_R_4, c_2_R_5, c_2_R_6, c_2_R_7, c_2_R_8, c_2_R_9, c_2_R_10, c_2_R_11, c_2_R_12, c_2_R_13⟩ := cells14 k_2_R
  have l_2_R := k_2_R.lt
  have z_2_R := k_2_R.frozen
  have k_2_O : Blk w_2 b_O 45 #[.slice (some ⟨gS_1, 0, none⟩) n n, .int .i64 0, .int .i64 0, .int .i64 0, .int .i64 0, .int .i64 0, .slice none 0 0, .int .i64 0, .int .i64 0, .int .i64 0, .int .i64 0, .int .i64 0, .int .i64 0, .int .i64 0] := kf_O
  obtain ⟨c_2_O_0, c_2_O_1, c_2_O_2, c_2_O_3, c_2_O_4, c_2_O_5, c_2_O_6, c_2_O_7, c_2_O_8, c_2_O_9, c_2_O_10, c_2_O_11, c_2_O_12, c_2_O_13⟩ := cells14 k_2_O
  have l_2_O := k_2_O.lt
  have z_2_O := k_2_O.frozen
  have o_2_S : OwnC w_2 gS_1 (n) n xs := fo_S
  clear i_1 k_1_A c_1_A_0 c_1_A_1 c_1_A_2 c_1_A_3 c_1_A_4 c_1_A_5 c_1_A_6 c_1_A_7 c_1_A_8 c_1_A_9 c_1_A_10 c_1_A_11 c_1_A_12 c_1_A_13 l_1_A k_1_R c_1_R_0 c_1_R_1 c_1_R_2 c_1_R_3 c_1_R_4 c_1_R_5 c_1_R_6 c_1_R_7 c_1_R_8 c_1_R_9 c_1_R_10 c_1_R_11 c_1_R_12 c_1_R_13 l_1_R z_1_R k_1_O c_1_O_0 c_1_O_1 c_1_O_2 c_1_O_3 c_1_O_4 c_1_O_5 c_1_O_6 c_1_O_7 c_1_O_8 c_1_O_9 c_1_O_10 c_1_O_11 c_1_O_12 c_1_O_13 l_1_O z_1_O o_1_S hb_1
  clear ii_2 kf_A kf_R kf_O fo_S
  skip
  refine (toDough_c a0 a1 a2 _).mono ?_
  rintro _ w_3 ⟨rfl, hb_3⟩
  have i_3 : In w.heap.size w w_3 := In.step (by (repeat (first | exact In.refl _ | assumption | apply In.alloc | apply In.drewN | apply In.drew | (refine In.step ?_ (by assumption))))) hb_3
  have k_3_A : Blk w_3 b_A 35 #[.slice A n c, .int .i64 a0, .int .i64 a1, .int .i64 a2, .int .i64 a3, .int .i64 a4, .slice B m d, .int .i64 a5, .int .i64 a6, .int .i64 a7, .int .i64 a8, .int .i64 a9, .int .i64 a10, .int .i64 a11] := Blk.step (by (with_reducible (repeat (first | assumption | exact Blk.new' (by simp) | apply Blk.drewN | apply Blk.drew | apply Blk.alloc | (refine Blk.far ?_ (by (try simp) <;> omega) _))))) hb_3
  obtain ⟨c_3_A_0, c_3_A_1, c_3_A_2, c_3_A_3, c_3_A_4, c_3_A_5, c_3_A_6, c_3_A_7, c_3_A_8, c_3_A_9, c_3_A_10, c_3_A_11, c_3_A_12, c_3_A_13⟩ := cells14 k_3_A
  have l_3_A := k_3_A.lt
  have k_3_R : Blk w_3 b_R 45 #[.slice none 0 0, .int .i64 0, .int .i64 0, .int .i64 0, .int .i64 0, .int .i64 0, .slice none 0 0, .int .i64 0, .int .i64 0, .int .i64 0, .int .i64 0, .int .i64 0, .int .i64 0, .int .i64 0] := Blk.step (by (with_reducible (repeat (first | assumption | exact Blk.new' (by simp) | apply Blk.drewN | apply Blk.drew | apply Blk.alloc | (refine Blk.far ?_ (by (try simp) <;> omega) _))))) hb_3
  obtain ⟨c_3_R_0, c_3_R_1, c_3_R_2, c_3_R_3, c_3_R_4, c_3_R_5, c_3_R_6, c_3_R_7, c_3_R_8, c_3_R_9, c_3_R_10, c_3_R_11, c_3_R_12, c_3_R_13⟩ := cells14 k_3_R
  have l_3_R := k_3_R.lt
  have z_3_R := k_3_R.frozen
  have k_3_O : Blk w_3 b_O 45 #[.slice (some ⟨gS_1, 0, none⟩) n n, .int .i64 0, .int .i64 0, .int .i64 0, .int .i64 0, .int .i64 0, .slice none 0 0, .int .i64 0, .int .i64 0, .int .i64 0, .int .i64 0, .int .i64 0, .int .i64 0, .int .i64 0] := Blk.step (by (with_reducible (repeat (first | assumption | exact Blk.new' (by simp) | apply Blk.drewN | apply Blk.drew | apply Blk.alloc | (refine Blk.far ?_ (by (try simp) <;> omega) _))))) hb_3
  obtain ⟨c_3_O_0, c_3_O_1, c_3_O_2, c_3_O_3, c_3_O_4, c_3_O_5, c_3_O_6, c_3_O_7, c_3_O_8, c_3_O_9, c_3_O_10, c_3_O_11, c_3_O_12, c_3_O_13⟩ := cells14 k_3_O
  have l_3_O := k_3_O.lt
  have z_3_O := k_3_O.frozen
  have o_3_S : OwnC w_3 gS_1 (n) n xs := OwnC.step (by with_reducible (repeat (first | assumption | apply OwnC.drewN | apply OwnC.drew | apply OwnC.alloc))) hb_3
  clear i_2 k_2_A c_2_A_0 c_2_A_1 c_2_A_2 c_2_A_3 c_2_A_4 c_2_A_5 c_2_A_6 c_2_A_7 c_2_A_8 c_2_A_9 c_2_A_10 c_2_A_11 c_2_A_12 c_2_A_13 l_2_A k_2_R c_2_R_0 c_2_R_1 c_2_R_2 c_2_R_3 c_2_R_4 c_2_R_5 c_2_R_6 c_2_R_7 c_2_R_8 c_2_R_9 c_2_R_10 c_2_R_11 c_2_R_12 c_2_R_13 l_2_R z_2_R k_2_O c_2_O_0 c_2_O_1 c_2_O_2 c_2_O_3 c_2_O_4 c_2_O_5 c_2_O_6 c_2_O_7 c_2_O_8 c_2_O_9 c_2_O_10 c_2_O_11 c_2_O_12 c_2_O_13 l_2_O z_2_O o_2_S
  have hn1_O_A : b_A ≠ b_O := by first | exact NB_A_O.out | exact NB_O_A.out.symm
  have hn2_O_A : b_O ≠ b_A := hn1_O_A.symm
  have hn1_O_R : b_R ≠ b_O := by first | exact NB_R_O.out | exact NB_O_R.out.symm
  have hn2_O_R : b_O ≠ b_R := hn1_O_R.symm
  go_wp2_with fail
  have kf_A : Blk (((w_3.setCell ⟨b_O, 1, none⟩ (.int .i64 a0)).setCell ⟨b_O, 2, none⟩ (.int .i64 a1)).setCell ⟨b_O, 3, none⟩ (.int .i64 a2)) b_A 35 #[.slice A n c, .int .i64 a0, .int .i64 a1, .int .i64 a2, .int .i64 a3, .int .i64 a4, .slice B m d, .int .i64 a5, .int .i64 a6, .int .i64 a7, .int .i64 a8, .int .i64 a9, .int .i64 a10, .int .i64 a11] := by
    have h := (Blk.far (Blk.far (Blk.far k_3_A (p := ⟨b_O, 1, none⟩) (by first | exact NB_A_O.out | exact NB_O_A.out.symm) (.int .i64 a0)) (p := ⟨b_O, 2, none⟩) (by first | exact NB_A_O.out | exact NB_O_A.out.symm) (.int .i64 a1)) (p := ⟨b_O, 3, none⟩) (by first | exact NB_A_O.out | exact NB_O_A.out.symm) (.int .i64 a2))
    simpa using h
  have kf_R : Blk (((w_3.setCell ⟨b_O, 1, none⟩ (.int .i64 a0)).setCell ⟨b_O, 2, none⟩ (.int .i64 a1)).setCell ⟨b_O, 3, none⟩ (.int .i64 a2)) b_R 45 #[.slice none 0 0, .int .i64 0, .int .i64 0, .int .i64 0, .int .i64 0, .int .i64 0, .slice none 0 0, .int .i64 0, .int .i64 0, .int .i64 0, .int .i64 0, .int .i64 0, .int .i64 0, .int .i64 0] := by
    have h := (Blk.far (Blk.far (Blk.far k_3_R (p := ⟨b_O, 1, none⟩) (by first | exact NB_R_O.out | exact NB_O_R.out.symm) (.int .i64 a0)) (p := ⟨b_O, 2, none⟩) (by first | exact NB_R_O.out | exact NB_O_R.out.symm) (.int .i64 a1)) (p := ⟨b_O, 3, none⟩) (by first | exact NB_R_O.out | exact NB_O_R.out.symm) (.int .i64 a2))
    simpa using h
  have kf_O : Blk (((w_3.setCell ⟨b_O, 1, none⟩ (.int .i64 a0)).setCell ⟨b_O, 2, none⟩ (.int .i64 a1)).setCell ⟨b_O, 3, none⟩ (.int .i64 a2)) b_O 45 #[.slice (some ⟨gS_1, 0, none⟩) n n, .int .i64 a0, .int .i64 a1, .int .i64 a2, .int .i64 0, .int .i64 0, .slice none 0 0, .int .i64 0, .int .i64 0, .int .i64 0, .int .i64 0, .int .i64 0, .int .i64 0, .int .i64 0] := by
    have h := (((k_3_O.set_ 1 (.int .i64 a0)).set_ 2 (.int .i64 a1)).set_ 3 (.int .i64 a2))
    simpa using h
  have fo_S : OwnC (((w_3.setCell ⟨b_O, 1, none⟩ (.int .i64 a0)).setCell ⟨b_O, 2, none⟩ (.int .i64 a1)).setCell ⟨b_O, 3, none⟩ (.int .i64 a2)) gS_1 (n) n xs := (OwnC.far (OwnC.far (OwnC.far o_3_S k_3_O (by decide) (only_set ⟨b_O, 1, none⟩ _)) (k_3_O.set_ 1 _) (by decide) (only_set ⟨b_O, 2, none⟩ _)) ((k_3_O.set_ 1 _).set_ 2 _) (by decide) (only_set ⟨b_O, 3, none⟩ _))
  have ii_4 : In w.heap.size w (((w_3.setCell ⟨b_O, 1, none⟩ (.int .i64 a0)).setCell ⟨b_O, 2, none⟩ (.int .i64 a1)).setCell ⟨b_O, 3, none⟩ (.int .i64 a2)) := (In.set_ (In.set_ (In.set_ i_3 (p := ⟨b_O, 1, none⟩) hwb_O (.int .i64 a0)) (p := ⟨b_O, 2, none⟩) hwb_O (.int .i64 a1)) (p := ⟨b_O, 3, none⟩) hwb_O (.int .i64 a2))
  generalize (((w_3.setCell ⟨b_O, 1, none⟩ (.int .i64 a0)).setCell ⟨b_O, 2, none⟩ (.int .i64 a1)).setCell ⟨b_O, 3, none⟩ (.int .i64 a2)) = w_4 at *
  clear hn1_O_A hn2_O_A hn1_O_R hn2_O_R
  have i_4 : In w.heap.size w w_4 := ii_4
  have k_4_A : Blk w_4 b_A 35 #[.slice A n c, .int .i64 a0, .int .i64 a1, .int .i64 a2, .int .i64 a3, .int .i64 a4, .slice B m d, .int .i64 a5, .int .i64 a6, .int .i64 a7, .int .i64 a8, .int .i64 a9, .int .i64 a10, .int .i64 a11] := kf_A
  obtain ⟨c_4_A_0, c_4_A_1, c_4_A_2, c_4_A_3, c_4_A_4, c_4_A_5, c_4_A_6, c_4_A_7, c_4_A_8, c_4_A_9, c_4_A_10, c_4_A_11, c_4_A_12, c_4_A_13⟩ := cells14 k_4_A
  have l_4_A := k_4_A.lt
  have k_4_R : Blk w_4 b_R 45 #[.slice none 0 0, .int .i64 0, .int .i64 0, .int .i64 0, .int .i64 0, .int .i64 0, .slice none 0 0, .int .i64 0, .int .i64 0, .int .i64 0, .int .i64 0, .int .i64 0, .int .i64 0, .int .i64 0] := kf_R
  obtain ⟨c_4_R_0, c_4_R_1, c_4_R_2, c_4_R_3, c_4_R_4, c_4_R_5, c_4_R_6, c_4_R_7, c_4_R_8, c_4_R_9, c_4_R_10, c_4_R_11, c_4_R_12, c_4_R_13⟩ := cells14 k_4_R
  have l_4_R := k_4_R.lt
  have z_4_R := k_4_R.frozen
  have k_4_O : Blk w_4 b_O 45 #[.slice (some ⟨gS_1, 0, none⟩) n n, .int .i64 a0, .int .i64 a1, .int .i64 a2, .int .i64 0, .int .i64 0, .slice none 0 0, .int .i64 0, .int .i64 0, .int .i64 0, .int .i64 0, .int .i64 0, .int .i64 0, .int .i64 0] := kf_O
  obtain ⟨c_4_O_0, c_4_O_1, c_4_O_2, c_4_O_3, c_4_O_4, c_4_O_5, c_4_O_6, c_4_O_7, c_4_O_8, c_4_O_9, c_4_O_10, c_4_O_11, c_4_O_12, c_4_O_13⟩ := cells14 k_4_O
  have l_4_O := k_4_O.lt
  have z_4_O := k_4_O.frozen
  have o_4_S : OwnC w_4 gS_1 (n) n xs := fo_S
  clear i_3 k_3_A c_3_A_0 c_3_A_1 c_3_A_2 c_3_A_3 c_3_A_4 c_3_A_5 c_3_A_6 c_3_A_7 c_3_A_8 c_3_A_9 c_3_A_10 c_3_A_11 c_3_A_12 c_3_A_13 l_3_A k_3_R c_3_R_0 c_3_R_1 c_3_R_2 c_3_R_3 c_3_R_4 c_3_R_5 c_3_R_6 c_3_R_7 c_3_R_8 c_3_R_9 c_3_R_10 c_3_R_11 c_3_R_12 c_3_R_13 l_3_R z_3_R k_3_O c_3_O_0 c_3_O_1 c_3_O_2 c_3_O_3 c_3_O_4 c_3_O_5 c_3_O_6 c_3_O_7 c_3_O_8 c_3_O_9 c_3_O_10 c_3_O_11 c_3_O_12 c_3_O_13 l_3_O z_3_O o_3_S hb_3
  clear ii_4 kf_A kf_R kf_O fo_S
  skip
  refine (toLoaf_c a3 a4 _).mono ?_
  rintro _ w_5 ⟨rfl, hb_5⟩
  have i_5 : In w.heap.size w w_5 := In.step (by (repeat (first | exact In.refl _ | assumption | apply In.alloc | apply In.drewN | apply In.drew | (refine In.step ?_ (by assumption))))) hb_5
  have k_5_A : Blk w_5 b_A 35 #[.slice A n c, .int .i64 a0, .int .i64 a1, .int .i64 a2, .int .i64 a3, .int .i64 a4, .slice B m d, .int .i64 a5, .int .i64 a6, .int .i64 a7, .int .i64 a8, .int .i64 a9, .int .i64 a10, .int .i64 a11] := Blk.step (by (with_reducible (repeat (first | assumption | exact Blk.new' (by simp) | apply Blk.drewN | apply Blk.drew | apply Blk.alloc | (refine Blk.far ?_ (by (try simp) <;> omega) _))))) hb_5
  obtain ⟨c_5_A_0, c_5_A_1, c_5_A_2, c_5_A_3, c_5_A_4, c_5_A_5, c_5_A_6, c_5_A_7, c_5_A_8, c_5_A_9, c_5_A_10, c_5_A_11, c_5_A_12, c_5_A_13⟩ := cells14 k_5_A
  have l_5_A := k_5_A.lt
  have k_5_R : Blk w_5 b_R 45 #[.slice none 0 0, .int .i64 0, .int .i64 0, .int .i64 0, .int .i64 0, .int .i64 0, .slice none 0 0, .int .i64 0, .int .i64 0, .int .i64 0, .int .i64 0, .int .i64 0, .int .i64 0, .int .i64 0] := Blk.step (by (with_reducible (repeat (first | assumption | exact Blk.new' (by simp) | apply Blk.drewN | apply Blk.drew | apply Blk.alloc | (refine Blk.far ?_ (by (try simp) <;> omega) _))))) hb_5
  obtain ⟨c_5_R_0, c_5_R_1, c_5_R_2, c_5_R_3, c_5_R_4, c_5_R_5, c_5_R_6, c_5_R_7, c_5_R_8, c_5_R_9, c_5_R_10, c_5_R_11, c_5_R_12, c_5_R_13⟩ := cells14 k_5_R
  have l_5_R := k_5_R.lt
  have z_5_R := k_5_R.frozen
  have k_5_O : Blk w_5 b_O 45 #[.slice (some ⟨gS_1, 0, none⟩) n n, .int .i64 a0, .int .i64 a1, .int .i64 a2, .int .i64 0, .int .i64 0, .slice none 0 0, .int .i64 0, .int .i64 0, .int .i64 0, .int .i64 0, .int .i64 0, .int .i64 0, .int .i64 0] := Blk.step (by (with_reducible (repeat (first | assumption | exact Blk.new' (by simp) | apply Blk.drewN | apply Blk.drew | apply Blk.alloc | (refine Blk.far ?_ (by (try simp) <;> omega) _))))) hb_5
  obtain ⟨c_5_O_0, c_5_O_1, c_5_O_2, c_5_O_3, c_5_O_4, c_5_O_5, c_5_O_6, c_5_O_7, c_5_O_8, c_5_O_9, c_5_O_10, c_5_O_11, c_5_O_12, c_5_O_13⟩ := cells14 k_5_O
  have l_5_O := k_5_O.lt
  have z_5_O := k_5_O.frozen
  have o_5_S : OwnC w_5 gS_1 (n) n xs := OwnC.step (by with_reducible (repeat (first | assumption | apply OwnC.drewN | apply OwnC.drew | apply OwnC.alloc))) hb_5
  clear i_4 k_4_A c_4_A_0 c_4_A_1 c_4_A_2 c_4_A_3 c_4_A_4 c_4_A_5 c_4_A_6 c_4_A_7 c_4_A_8 c_4_A_9 c_4_A_10 c_4_A_11 c_4_A_12 c_4_A_13 l_4_A k_4_R c_4_R_0 c_4_R_1 c_4_R_2 c_4_R_3 c_4_R_4 c_4_R_5 c_4_R_6 c_4_R_7 c_4_R_8 c_4_R_9 c_4_R_10 c_4_R_11 c_4_R_12 c_4_R_13 l_4_R z_4_R k_4_O c_4_O_0 c_4_O_1 c_4_O_2 c_4_O_3 c_4_O_4 c_4_O_5 c_4_O_6 c_4_O_7 c_4_O_8 c_4_O_9 c_4_O_10 c_4_O_11 c_4_O_12 c_4_O_13 l_4_O z_4_O o_4_S
  have hn1_O_A : b_A ≠ b_O := by first | exact NB_A_O.out | exact NB_O_A.out.symm
  have hn2_O_A : b_O ≠ b_A := hn1_O_A.symm
  have hn1_O_R : b_R ≠ b_O := by first | exact NB_R_O.out | exact NB_O_R.out.symm
  have hn2_O_R : b_O ≠ b_R := hn1_O_R.symm
  go_wp2_with fail
  have kf_A : Blk ((w_5.setCell ⟨b_O, 4, none⟩ (.int .i64 a3)).setCell ⟨b_O, 5, none⟩ (.int .i64 a4)) b_A 35 #[.slice A n c, .int .i64 a0, .int .i64 a1, .int .i64 a2, .int .i64 a3, .int .i64 a4, .slice B m d, .int .i64 a5, .int .i64 a6, .int .i64 a7, .int .i64 a8, .int .i64 a9, .int .i64 a10, .int .i64 a11] := by
    have h := (Blk.far (Blk.far k_5_A (p := ⟨b_O, 4, none⟩) (by first | exact NB_A_O.out | exact NB_O_A.out.symm) (.int .i64 a3)) (p := ⟨b_O, 5, none⟩) (by first | exact NB_A_O.out | exact NB_O_A.out.symm) (.int .i64 a4))
    simpa using h
  have kf_R : Blk ((w_5.setCell ⟨b_O, 4, none⟩ (.int .i64 a3)).setCell ⟨b_O, 5, none⟩ (.int .i64 a4)) b_R 45 #[.slice none 0 0, .int .i64 0, .int .i64 0, .int .i64 0, .int .i64 0, .int .i64 0, .slice none 0 0, .int .i64 0, .int .i64 0, .int .i64 0, .int .i64 0, .int .i64 0, .int .i64 0, .int .i64 0] := by
    have h := (Blk.far (Blk.far k_5_R (p := ⟨b_O, 4, none⟩) (by first | exact NB_R_O.out | exact NB_O_R.out.symm) (.int .i64 a3)) (p := ⟨b_O, 5, none⟩) (by first | exact NB_R_O.out | exact NB_O_R.out.symm) (.int .i64 a4))
    simpa using h
  have kf_O : Blk ((w_5.setCell ⟨b_O, 4, none⟩ (.int .i64 a3)).setCell ⟨b_O, 5, none⟩ (.int .i64 a4)) b_O 45 #[.slice (some ⟨gS_1, 0, none⟩) n n, .int .i64 a0, .int .i64 a1, .int .i64 a2, .int .i64 a3, .int .i64 a4, .slice none 0 0, .int .i64 0, .int .i64 0, .int .i64 0, .int .i64 0, .int .i64 0, .int .i64 0, .int .i64 0] := by
    have h := ((k_5_O.set_ 4 (.int .i64 a3)).set_ 5 (.int .i64 a4))
    simpa using h
  have fo_S : OwnC ((w_5.setCell ⟨b_O, 4, none⟩ (.int .i64 a3)).setCell ⟨b_O, 5, none⟩ (.int .i64 a4)) gS_1 (n) n xs := (OwnC.far (OwnC.far o_5_S k_5_O (by decide) (only_set ⟨b_O, 4, none⟩ (.int .i64 a3))) (k_5_O.set_ 4 (.int .i64 a3)) (by decide) (only_set ⟨b_O, 5, none⟩ (.int .i64 a4)))
  have ii_6 : In w.heap.size w ((w_5.setCell ⟨b_O, 4, none⟩ (.int .i64 a3)).setCell ⟨b_O, 5, none⟩ (.int .i64 a4)) := (In.set_ (In.set_ i_5 (p := ⟨b_O, 4, none⟩) hwb_O (.int .i64 a3)) (p := ⟨b_O, 5, none⟩) hwb_O (.int .i64 a4))
  generalize ((w_5.setCell ⟨b_O, 4, none⟩ (.int .i64 a3)).setCell ⟨b_O, 5, none⟩ (.int .i64 a4)) = w_6 at *
  clear hn1_O_A hn2_O_A hn1_O_R hn2_O_R
  have i_6 : In w.heap.size w w_6 := ii_6
  have k_6_A : Blk w_6 b_A 35 #[.slice A n c, .int .i64 a0, .int .i64 a1, .int .i64 a2, .int .i64 a3, .int .i64 a4, .slice B m d, .int .i64 a5, .int .i64 a6, .int .i64 a7, .int .i64 a8, .int .i64 a9, .int .i64 a10, .int .i64 a11] := kf_A
  obtain ⟨c_6_A_0, c_6_A_1, c_6_A_2, c_6_A_3, c_6_A_4, c_6_A_5, c_6_A_6, c_6_A_7, c_6_A_8, c_6_A_9, c_6_A_10, c_6_A_11, c_6_A_12, c_6_A_13⟩ := cells14 k_6_A
  have l_6_A := k_6_A.lt
  have k_6_R : Blk w_6 b_R 45 #[.slice none 0 0, .int .i64 0, .int .i64 0, .int .i64 0, .int .i64 0, .int .i64 0, .slice none 0 0, .int .i64 0, .int .i64 0, .int .i64 0, .int .i64 0, .int .i64 0, .int .i64 0, .int .i64 0] := kf_R
  obtain ⟨c_6_R_0, c_6_R_1, c_6_R_2, c_6_R_3, c_6_R_4, c_6_R_5, c_6_R_6, c_6_R_7, c_6_R_8, c_6_R_9, c_6_R_10, c_6_R_11, c_6_R_12, c_6_R_13⟩ := cells14 k_6_R
  have l_6_R := k_6_R.lt
  have z_6_R := k_6_R.frozen
  have k_6_O : Blk w_6 b_O 45 #[.slice (some ⟨gS_1, 0, none⟩) n n, .int .i64 a0, .int .i64 a1, .int .i64 a2, .int .i64 a3, .int .i64 a4, .slice none 0 0, .int .i64 0, .int .i64 0, .int .i64 0, .int .i64 0, .int .i64 0, .int .i64 0, .int .i64 0] := kf_O
  obtain ⟨c_6_O_0, c_6_O_1, c_6_O_2, c_6_O_3, c_6_O_4, c_6_O_5, c_6_O_6, c_6_O_7, c_6_O_8, c_6_O_9, c_6_O_10, c_6_O_11, c_6_O_12, c_6_O_13⟩ := cells14 k_6_O
  have l_6_O := k_6_O.lt
  have z_6_O := k_6_O.frozen
  have o_6_S : OwnC w_6 gS_1 (n) n xs := fo_S
  clear i_5 k_5_A c_5_A_0 c_5_A_1 c_5_A_2 c_5_A_3 c_5_A_4 c_5_A_5 c_5_A_6 c_5_A_7 c_5_A_8 c_5_A_9 c_5_A_10 c_5_A_11 c_5_A_12 c_5_A_13 l_5_A k_5_R c_5_R_0 c_5_R_1 c_5_R_2 c_5_R_3 c_5_R_4 c_5_R_5 c_5_R_6 c_5_R_7 c_5_R_8 c_5_R_9 c_5_R_10 c_5_R_11 c_5_R_12 c_5_R_13 l_5_R z_5_R k_5_O c_5_O_0 c_5_O_1 c_5_O_2 c_5_O_3 c_5_O_4 c_5_O_5 c_5_O_6 c_5_O_7 c_5_O_8 c_5_O_9 c_5_O_10 c_5_O_11 c_5_O_12 c_5_O_13 l_5_O z_5_O o_5_S hb_5
  clear ii_6 kf_A kf_R kf_O fo_S
  skip
  refine (toBook_w B m d ys a5 a6 a7 a8 a9 a10 _ hm (HY.out.in_ (by (repeat (first | exact In.refl _ | assumption | apply In.alloc | apply In.drewN | apply In.drew | (refine In.step ?_ (by assumption))))))).mono ?_
  rintro _ w_7 ⟨gE_7, rfl, hoE_7, hgE_7, hb_7⟩
  have NE_S_E : Hid (gS_1 ≠ gE_7) := Lib.hid (by have h1 := hgE_7; (try simp at h1); have h2 := OwnC.lt o_6_S; omega)
  have GX_E : Hid (w.heap.size ≤ gE_7) := Lib.hid (by have h1 := hgE_7; (try simp at h1); have h2 := In.size i_6; omega)
  have o_7_E : OCEvent w_7 gE_7 (m) m ys := hoE_7
  clear hoE_7 hgE_7
  have i_7 : In w.heap.size w w_7 := In.step (by (repeat (first | exact In.refl _ | assumption | apply In.alloc | apply In.drewN | apply In.drew | (refine In.step ?_ (by assumption))))) hb_7
  have k_7_A : Blk w_7 b_A 35 #[.slice A n c, .int .i64 a0, .int .i64 a1, .int .i64 a2, .int .i64 a3, .int .i64 a4, .slice B m d, .int .i64 a5, .int .i64 a6, .int .i64 a7, .int .i64 a8, .int .i64 a9, .int .i64 a10, .int .i64 a11] := Blk.step (by (with_reducible (repeat (first | assumption | exact Blk.new' (by simp) | apply Blk.drewN | apply Blk.drew | apply Blk.alloc | (refine Blk.far ?_ (by (try simp) <;> omega) _))))) hb_7
  obtain ⟨c_7_A_0, c_7_A_1, c_7_A_2, c_7_A_3, c_7_A_4, c_7_A_5, c_7_A_6, c_7_A_7, c_7_A_8, c_7_A_9, c_7_A_10, c_7_A_11, c_7_A_12, c_7_A_13⟩ := cells14 k_7_A
  have l_7_A := k_7_A.lt
  have k_7_R : Blk w_7 b_R 45 #[.slice none 0 0, .int .i64 0, .int .i64 0, .int .i64 0, .int .i64 0, .int .i64 0, .slice none 0 0, .int .i64 0, .int .i64 0, .int .i64 0, .int .i64 0, .int .i64 0, .int .i64 0, .int .i64 0] := Blk.step (by (with_reducible (repeat (first | assumption | exact Blk.new' (by simp) | apply Blk.drewN | apply Blk.drew | apply Blk.alloc | (refine Blk.far ?_ (by (try simp) <;> omega) _))))) hb_7
  obtain ⟨c_7_R_0, c_7_R_1, c_7_R_2, c_7_R_3, c_7_R_4, c_7_R_5, c_7_R_6, c_7_R_7, c_7_R_8, c_7_R_9, c_7_R_10, c_7_R_11, c_7_R_12, c_7_R_13⟩ := cells14 k_7_R
  have l_7_R := k_7_R.lt
  have z_7_R := k_7_R.frozen
  have k_7_O : Blk w_7 b_O 45 #[.slice (some ⟨gS_1, 0, none⟩) n n, .int .i64 a0, .int .i64 a1, .int .i64 a2, .int .i64 a3, .int .i64 a4, .slice none 0 0, .int .i64 0, .int .i64 0, .int .i64 0, .int .i64 0, .int .i64 0, .int .i64 0, .int .i64 0] := Blk.step (by (with_reducible (repeat (first | assumption | exact Blk.new' (by simp) | apply Blk.drewN | apply Blk.drew | apply Blk.alloc | (refine Blk.far ?_ (by (try simp) <;> omega) _))))) hb_7
  obtain ⟨c_7_O_0, c_7_O_1, c_7_O_2, c_7_O_3, c_7_O_4, c_7_O_5, c_7_O_6, c_7_O_7, c_7_O_8, c_7_O_9, c_7_O_10, c_7_O_11, c_7_O_12, c_7_O_13⟩ := cells14 k_7_O
  have l_7_O := k_7_O.lt
  have z_7_O := k_7_O.frozen
  have o_7_S : OwnC w_7 gS_1 (n) n xs := OwnC.step (by with_reducible (repeat (first | assumption | apply OwnC.drewN | apply OwnC.drew | apply OwnC.alloc))) hb_7
  clear i_6 k_6_A c_6_A_0 c_6_A_1 c_6_A_2 c_6_A_3 c_6_A_4 c_6_A_5 c_6_A_6 c_6_A_7 c_6_A_8 c_6_A_9 c_6_A_10 c_6_A_11 c_6_A_12 c_6_A_13 l_6_A k_6_R c_6_R_0 c_6_R_1 c_6_R_2 c_6_R_3 c_6_R_4 c_6_R_5 c_6_R_6 c_6_R_7 c_6_R_8 c_6_R_9 c_6_R_10 c_6_R_11 c_6_R_12 c_6_R_13 l_6_R z_6_R k_6_O c_6_O_0 c_6_O_1 c_6_O_2 c_6_O_3 c_6_O_4 c_6_O_5 c_6_O_6 c_6_O_7 c_6_O_8 c_6_O_9 c_6_O_10 c_6_O_11 c_6_O_12 c_6_O_13 l_6_O z_6_O o_6_S
  have hn1_O_A : b_A ≠ b_O := by first | exact NB_A_O.out | exact NB_O_A.out.symm
  have hn2_O_A : b_O ≠ b_A := hn1_O_A.symm
  have hn1_O_R : b_R ≠ b_O := by first | exact NB_R_O.out | exact NB_O_R.out.symm
  have hn2_O_R : b_O ≠ b_R := hn1_O_R.symm
  have hn1_R_A : b_A ≠ b_R := by first | exact NB_A_R.out | exact NB_R_A.out.symm
  have hn2_R_A : b_R ≠ b_A := hn1_R_A.symm
  have hn1_R_O : b_O ≠ b_R := by first | exact NB_O_R.out | exact NB_R_O.out.symm
  have hn2_R_O : b_R ≠ b_O := hn1_R_O.symm
  have kk : Blk ((((((((((((((((((((((w_7.setCell ⟨b_O, 6, none⟩ (.slice (some ⟨gE_7, 0, none⟩) m m)).setCell ⟨b_O, 7, none⟩ (.int .i64 a5)).setCell ⟨b_O, 8, none⟩ (.int .i64 a6)).setCell ⟨b_O, 9, none⟩ (.int .i64 a7)).setCell ⟨b_O, 10, none⟩ (.int .i64 a8)).setCell ⟨b_O, 11, none⟩ (.int .i64 a9)).setCell ⟨b_O, 12, none⟩ (.int .i64 a10)).setCell ⟨b_O, 13, none⟩ (.int .i64 a11)).setCell ⟨b_R, 0, none⟩ (.slice (some ⟨gS_1, 0, none⟩) n n)).setCell ⟨b_R, 1, none⟩ (.int .i64 a0)).setCell ⟨b_R, 2, none⟩ (.int .i64 a1)).setCell ⟨b_R, 3, none⟩ (.int .i64 a2)).setCell ⟨b_R, 4, none⟩ (.int .i64 a3)).setCell ⟨b_R, 5, none⟩ (.int .i64 a4)).setCell ⟨b_R, 6, none⟩ (.slice (some ⟨gE_7, 0, none⟩) m m)).setCell ⟨b_R, 7, none⟩ (.int .i64 a5)).setCell ⟨b_R, 8, none⟩ (.int .i64 a6)).setCell ⟨b_R, 9, none⟩ (.int .i64 a7)).setCell ⟨b_R, 10, none⟩ (.int .i64 a8)).setCell ⟨b_R, 11, none⟩ (.int .i64 a9)).setCell ⟨b_R, 12, none⟩ (.int .i64 a10)).setCell ⟨b_R, 13, none⟩ (.int .i64 a11)) b_R 45 #[.slice (some ⟨gS_1, 0, none⟩) n n, .int .i64 a0, .int .i64 a1, .int .i64 a2, .int .i64 a3, .int .i64 a4, .slice (some ⟨gE_7, 0, none⟩) m m, .int .i64 a5, .int .i64 a6, .int .i64 a7, .int .i64 a8, .int .i64 a9, .int .i64 a10, .int .i64 a11] := by
    have h := (((((((((((((((Blk.far (Blk.far (Blk.far (Blk.far (Blk.far (Blk.far (Blk.far (Blk.far k_7_R (p := ⟨b_O, 6, none⟩) (by first | exact NB_R_O.out | exact NB_O_R.out.symm) (.slice (some ⟨gE_7, 0, none⟩) m m)) (p := ⟨b_O, 7, none⟩) (by first | exact NB_R_O.out | exact NB_O_R.out.symm) (.int .i64 a5)) (p := ⟨b_O, 8, none⟩) (by first | exact NB_R_O.out | exact NB_O_R.out.symm) (.int .i64 a6)) (p := ⟨b_O, 9, none⟩) (by first | exact NB_R_O.out | exact NB_O_R.out.symm) (.int .i64 a7)) (p := ⟨b_O, 10, none⟩) (by first | exact NB_R_O.out | exact NB_O_R.out.symm) (.int .i64 a8)) (p := ⟨b_O, 11, none⟩) (by first | exact NB_R_O.out | exact NB_O_R.out.symm) (.int .i64 a9)) (p := ⟨b_O, 12, none⟩) (by first | exact NB_R_O.out | exact NB_O_R.out.symm) (.int .i64 a10)) (p := ⟨b_O, 13, none⟩) (by first | exact NB_R_O.out | exact NB_O_R.out.symm) (.int .i64 a11)).set_ 0 (.slice (some ⟨gS_1, 0, none⟩) n n)).set_ 1 (.int .i64 a0)).set_ 2 (.int .i64 a1)).set_ 3 (.int .i64 a2)).set_ 4 (.int .i64 a3)).set_ 5 (.int .i64 a4)).set_ 6 (.slice (some ⟨gE_7, 0, none⟩) m m)).set_ 7 (.int .i64 a5)).set_ 8 (.int .i64 a6)).set_ 9 (.int .i64 a7)).set_ 10 (.int .i64 a8)).set_ 11 (.int .i64 a9)).set_ 12 (.int .i64 a10)).set_ 13 (.int .i64 a11))
    simpa using h
  have i9 : In w.heap.size w ((((((((((((((((((((((w_7.setCell ⟨b_O, 6, none⟩ (.slice (some ⟨gE_7, 0, none⟩) m m)).setCell ⟨b_O, 7, none⟩ (.int .i64 a5)).setCell ⟨b_O, 8, none⟩ (.int .i64 a6)).setCell ⟨b_O, 9, none⟩ (.int .i64 a7)).setCell ⟨b_O, 10, none⟩ (.int .i64 a8)).setCell ⟨b_O, 11, none⟩ (.int .i64 a9)).setCell ⟨b_O, 12, none⟩ (.int .i64 a10)).setCell ⟨b_O, 13, none⟩ (.int .i64 a11)).setCell ⟨b_R, 0, none⟩ (.slice (some ⟨gS_1, 0, none⟩) n n)).setCell ⟨b_R, 1, none⟩ (.int .i64 a0)).setCell ⟨b_R, 2, none⟩ (.int .i64 a1)).setCell ⟨b_R, 3, none⟩ (.int .i64 a2)).setCell ⟨b_R, 4, none⟩ (.int .i64 a3)).setCell ⟨b_R, 5, none⟩ (.int .i64 a4)).setCell ⟨b_R, 6, none⟩ (.slice (some ⟨gE_7, 0, none⟩) m m)).setCell ⟨b_R, 7, none⟩ (.int .i64 a5)).setCell ⟨b_R, 8, none⟩ (.int .i64 a6)).setCell ⟨b_R, 9, none⟩ (.int .i64 a7)).setCell ⟨b_R, 10, none⟩ (.int .i64 a8)).setCell ⟨b_R, 11, none⟩ (.int .i64 a9)).setCell ⟨b_R, 12, none⟩ (.int .i64 a10)).setCell ⟨b_R, 13, none⟩ (.int .i64 a11)) := (In.set_ (In.set_ (In.set_ (In.set_ (In.set_ (In.set_ (In.set_ (In.set_ (In.set_ (In.set_ (In.set_ (In.set_ (In.set_ (In.set_ (In.set_ (In.set_ (In.set_ (In.set_ (In.set_ (In.set_ (In.set_ (In.set_ i_7 (p := ⟨b_O, 6, none⟩) hwb_O (.slice (some ⟨gE_7, 0, none⟩) m m)) (p := ⟨b_O, 7, none⟩) hwb_O (.int .i64 a5)) (p := ⟨b_O, 8, none⟩) hwb_O (.int .i64 a6)) (p := ⟨b_O, 9, none⟩) hwb_O (.int .i64 a7)) (p := ⟨b_O, 10, none⟩) hwb_O (.int .i64 a8)) (p := ⟨b_O, 11, none⟩) hwb_O (.int .i64 a9)) (p := ⟨b_O, 12, none⟩) hwb_O (.int .i64 a10)) (p := ⟨b_O, 13, none⟩) hwb_O (.int .i64 a11)) (p := ⟨b_R, 0, none⟩) hwb_R (.slice (some ⟨gS_1, 0, none⟩) n n)) (p := ⟨b_R, 1, none⟩) hwb_R (.int .i64 a0)) (p := ⟨b_R, 2, none⟩) hwb_R (.int .i64 a1)) (p := ⟨b_R, 3, none⟩) hwb_R (.int .i64 a2)) (p := ⟨b_R, 4, none⟩) hwb_R (.int .i64 a3)) (p := ⟨b_R, 5, none⟩) hwb_R (.int .i64 a4)) (p := ⟨b_R, 6, none⟩) hwb_R (.slice (some ⟨gE_7, 0, none⟩) m m)) (p := ⟨b_R, 7, none⟩) hwb_R (.int .i64 a5)) (p := ⟨b_R, 8, none⟩) hwb_R (.int .i64 a6)) (p := ⟨b_R, 9, none⟩) hwb_R (.int .i64 a7)) (p := ⟨b_R, 10, none⟩) hwb_R (.int .i64 a8)) (p := ⟨b_R, 11, none⟩) hwb_R (.int .i64 a9)) (p := ⟨b_R, 12, none⟩) hwb_R (.int .i64 a10)) (p := ⟨b_R, 13, none⟩) hwb_R (.int .i64 a11))
  have OS : Hid (OwnC ((((((((((((((((((((((w_7.setCell ⟨b_O, 6, none⟩ (.slice (some ⟨gE_7, 0, none⟩) m m)).setCell ⟨b_O, 7, none⟩ (.int .i64 a5)).setCell ⟨b_O, 8, none⟩ (.int .i64 a6)).setCell ⟨b_O, 9, none⟩ (.int .i64 a7)).setCell ⟨b_O, 10, none⟩ (.int .i64 a8)).setCell ⟨b_O, 11, none⟩ (.int .i64 a9)).setCell ⟨b_O, 12, none⟩ (.int .i64 a10)).setCell ⟨b_O, 13, none⟩ (.int .i64 a11)).setCell ⟨b_R, 0, none⟩ (.slice (some ⟨gS_1, 0, none⟩) n n)).setCell ⟨b_R, 1, none⟩ (.int .i64 a0)).setCell ⟨b_R, 2, none⟩ (.int .i64 a1)).setCell ⟨b_R, 3, none⟩ (.int .i64 a2)).setCell ⟨b_R, 4, none⟩ (.int .i64 a3)).setCell ⟨b_R, 5, none⟩ (.int .i64 a4)).setCell ⟨b_R, 6, none⟩ (.slice (some ⟨gE_7, 0, none⟩) m m)).setCell ⟨b_R, 7, none⟩ (.int .i64 a5)).setCell ⟨b_R, 8, none⟩ (.int .i64 a6)).setCell ⟨b_R, 9, none⟩ (.int .i64 a7)).setCell ⟨b_R, 10, none⟩ (.int .i64 a8)).setCell ⟨b_R, 11, none⟩ (.int .i64 a9)).setCell ⟨b_R, 12, none⟩ (.int .i64 a10)).setCell ⟨b_R, 13, none⟩ (.int .i64 a11)) gS_1 (n) n xs) := Lib.hid (OwnC.far (OwnC.far o_7_S k_7_O (by decide) only8) (Blk.grown k_7_R only8 (fun h => (show b_R ≠ b_O by first | exact NB_R_O.out | exact NB_O_R.out.symm) (Option.some.inj h))) (by decide) only14)
  have OE : Hid (OCEvent ((((((((((((((((((((((w_7.setCell ⟨b_O, 6, none⟩ (.slice (some ⟨gE_7, 0, none⟩) m m)).setCell ⟨b_O, 7, none⟩ (.int .i64 a5)).setCell ⟨b_O, 8, none⟩ (.int .i64 a6)).setCell ⟨b_O, 9, none⟩ (.int .i64 a7)).setCell ⟨b_O, 10, none⟩ (.int .i64 a8)).setCell ⟨b_O, 11, none⟩ (.int .i64 a9)).setCell ⟨b_O, 12, none⟩ (.int .i64 a10)).setCell ⟨b_O, 13, none⟩ (.int .i64 a11)).setCell ⟨b_R, 0, none⟩ (.slice (some ⟨gS_1, 0, none⟩) n n)).setCell ⟨b_R, 1, none⟩ (.int .i64 a0)).setCell ⟨b_R, 2, none⟩ (.int .i64 a1)).setCell ⟨b_R, 3, none⟩ (.int .i64 a2)).setCell ⟨b_R, 4, none⟩ (.int .i64 a3)).setCell ⟨b_R, 5, none⟩ (.int .i64 a4)).setCell ⟨b_R, 6, none⟩ (.slice (some ⟨gE_7, 0, none⟩) m m)).setCell ⟨b_R, 7, none⟩ (.int .i64 a5)).setCell ⟨b_R, 8, none⟩ (.int .i64 a6)).setCell ⟨b_R, 9, none⟩ (.int .i64 a7)).setCell ⟨b_R, 10, none⟩ (.int .i64 a8)).setCell ⟨b_R, 11, none⟩ (.int .i64 a9)).setCell ⟨b_R, 12, none⟩ (.int .i64 a10)).setCell ⟨b_R, 13, none⟩ (.int .i64 a11)) gE_7 (m) m ys) := Lib.hid (OCEvent.far (OCEvent.far o_7_E k_7_O (by decide) only8) (Blk.grown k_7_R only8 (fun h => (show b_R ≠ b_O by first | exact NB_R_O.out | exact NB_O_R.out.symm) (Option.some.inj h))) (by decide) only14)
  have HK0 : Hid ((_ : World).cell? ⟨b_R, 0, none⟩ = some (.slice (some ⟨gS_1, 0, none⟩) n n)) := Lib.hid (kk.cell 0)
  have HK1 : Hid ((_ : World).cell? ⟨b_R, 1, none⟩ = some (.int .i64 a0)) := Lib.hid (kk.cell 1)
  have HK2 : Hid ((_ : World).cell? ⟨b_R, 2, none⟩ = some (.int .i64 a1)) := Lib.hid (kk.cell 2)
  have HK3 : Hid ((_ : World).cell? ⟨b_R, 3, none⟩ = some (.int .i64 a2)) := Lib.hid (kk.cell 3)
  have HK4 : Hid ((_ : World).cell? ⟨b_R, 4, none⟩ = some (.int .i64 a3)) := Lib.hid (kk.cell 4)
  have HK5 : Hid ((_ : World).cell? ⟨b_R, 5, none⟩ = some (.int .i64 a4)) := Lib.hid (kk.cell 5)
  have HK6 : Hid ((_ : World).cell? ⟨b_R, 6, none⟩ = some (.slice (some ⟨gE_7, 0, none⟩) m m)) := Lib.hid (kk.cell 6)
  have HK7 : Hid ((_ : World).cell? ⟨b_R, 7, none⟩ = some (.int .i64 a5)) := Lib.hid (kk.cell 7)
  have HK8 : Hid ((_ : World).cell? ⟨b_R, 8, none⟩ = some (.int .i64 a6)) := Lib.hid (kk.cell 8)
  have HK9 : Hid ((_ : World).cell? ⟨b_R, 9, none⟩ = some (.int .i64 a7)) := Lib.hid (kk.cell 9)
  have HK10 : Hid ((_ : World).cell? ⟨b_R, 10, none⟩ = some (.int .i64 a8)) := Lib.hid (kk.cell 10)
  have HK11 : Hid ((_ : World).cell? ⟨b_R, 11, none⟩ = some (.int .i64 a9)) := Lib.hid (kk.cell 11)
  have HK12 : Hid ((_ : World).cell? ⟨b_R, 12, none⟩ = some (.int .i64 a10)) := Lib.hid (kk.cell 12)
  have HK13 : Hid ((_ : World).cell? ⟨b_R, 13, none⟩ = some (.int .i64 a11)) := Lib.hid (kk.cell 13)
  clear kk
  clear o_7_S o_7_E
  go_wp2
  have hk0 := HK0.out
  have hk1 := HK1.out
  have hk2 := HK2.out
  have hk3 := HK3.out
  have hk4 := HK4.out
  have hk5 := HK5.out
  have hk6 := HK6.out
  have hk7 := HK7.out
  have hk8 := HK8.out
  have hk9 := HK9.out
  have hk10 := HK10.out
  have hk11 := HK11.out
  have hk12 := HK12.out
  have hk13 := HK13.out
  exact bodyPost_ret (v := .agg #[.slice (some ⟨gS_1, 0, none⟩) n n, .int .i64 a0, .int .i64 a1, .int .i64 a2, .int .i64 a3, .int .i64 a4, .slice (some ⟨gE_7, 0, none⟩) m m, .int .i64 a5, .int .i64 a6, .int .i64 a7, .int .i64 a8, .int .i64 a9, .int .i64 a10, .int .i64 a11]) (by simp [results, Try.results10, go_sem, hk0, hk1, hk2, hk3, hk4, hk5, hk6, hk7, hk8, hk9, hk10, hk11, hk12, hk13]) rfl (⟨gS_1, gE_7, rfl, OS.out, GX_S.out, OE.out, GX_E.out, i9.below⟩)
end Go.Proofs.Ytmcfghklfkmfkaa
