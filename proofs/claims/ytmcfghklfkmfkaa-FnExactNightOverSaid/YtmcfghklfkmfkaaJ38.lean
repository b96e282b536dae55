import Derived.Test.YtmcfghklfkmfkaaH38
/- Chapter 38: NightOver. -/
namespace Go.Proofs.Ytmcfghklfkmfkaa
open Go.ChangeShapes Go.WideShapes Go.ChangeAt Go.RowKit
set_option linter.unusedVariables false
set_option linter.unusedSimpArgs false
set_option maxHeartbeats 2000000

theorem DoEn.up {F : FuncId} {caps : Array Value} {w w0 : World} {g n c h m d : Nat} {a0 a1 a2 a3 a4 a5 a6 a7 a8 a9 a10 a11 : Int} {fl : Bool} {zs : List EventR} {s0 s1 s2 s3 s4 s5 mo : Int} (hd : DoEn F caps w g n c h m d a0 a1 a2 a3 a4 a5 a6 a7 a8 a9 a10 a11 fl zs s0 s1 s2 s3 s4 s5 mo) (hi : In w.heap.size w w0) : DoEn F caps w0 g n c h m d a0 a1 a2 a3 a4 a5 a6 a7 a8 a9 a10 a11 fl zs s0 s1 s2 s3 s4 s5 mo :=
  fun W b hI hb hk => hd W b (hi.trans hI) (Nat.le_trans hi.size hb) hk
set_option maxRecDepth 100000 in
set_option maxHeartbeats 8000000 in
theorem iworkIn (F : FuncId) (caps : Array Value) (g n c : Nat) (xs : List Int) (h m d : Nat) (ys : List EventR) (a0 a1 a2 a3 a4 a5 a6 a7 a8 a9 a10 a11 : Int) (fl ok2 : Bool) (zs : List EventR) (s0 s1 s2 s3 s4 s5 mo : Int) (w : World) (hn : (n : Int) ≤ 1048576) (hm : (m : Int) ≤ 1048576) (hz : (zs.length : Int) ≤ 1048576) (hx : ReadsI w (some ⟨g, 0, none⟩) n xs) (hy : ReadsEvent w (some ⟨h, 0, none⟩) m ys) (hdo : DoEn F caps w g n c h m d a0 a1 a2 a3 a4 a5 a6 a7 a8 a9 a10 a11 fl zs s0 s1 s2 s3 s4 s5 mo) (hF : ∀ (args : Array Value) (W : World), Sem.run Try.prog (callFunc F args) W = .ok (.enter F args) W) (hok : yOk n xs zs.length zs a0 a1 a2 a3 a4 s0 s1 s2 s3 s4 s5 mo = ok2) :
    Calls Try.prog 40 #[.agg #[.slice (some ⟨g, 0, none⟩) n c, .int .i64 a0, .int .i64 a1, .int .i64 a2, .int .i64 a3, .int .i64 a4, .slice (some ⟨h, 0, none⟩) m d, .int .i64 a5, .int .i64 a6, .int .i64 a7, .int .i64 a8, .int .i64 a9, .int .i64 a10, .int .i64 a11], .func (Fn.func F) #[] caps] w (RowYV n xs (pickE (yOk n xs m ys a0 a1 a2 a3 a4 a5 a6 a7 a8 a9 a10 a11 && (fl && ok2)) zs ys).length (pickE (yOk n xs m ys a0 a1 a2 a3 a4 a5 a6 a7 a8 a9 a10 a11 && (fl && ok2)) zs ys) a0 a1 a2 a3 a4 (pick4 (yOk n xs m ys a0 a1 a2 a3 a4 a5 a6 a7 a8 a9 a10 a11 && (fl && ok2)) s0 a5) (pick4 (yOk n xs m ys a0 a1 a2 a3 a4 a5 a6 a7 a8 a9 a10 a11 && (fl && ok2)) s1 a6) (pick4 (yOk n xs m ys a0 a1 a2 a3 a4 a5 a6 a7 a8 a9 a10 a11 && (fl && ok2)) s2 a7) (pick4 (yOk n xs m ys a0 a1 a2 a3 a4 a5 a6 a7 a8 a9 a10 a11 && (fl && ok2)) s3 a8) (pick4 (yOk n xs m ys a0 a1 a2 a3 a4 a5 a6 a7 a8 a9 a10 a11 && (fl && ok2)) s4 a9) (pick4 (yOk n xs m ys a0 a1 a2 a3 a4 a5 a6 a7 a8 a9 a10 a11 && (fl && ok2)) s5 a10) (pick4 (yOk n xs m ys a0 a1 a2 a3 a4 a5 a6 a7 a8 a9 a10 a11 && (fl && ok2)) mo a11) (.bool (yOk n xs m ys a0 a1 a2 a3 a4 a5 a6 a7 a8 a9 a10 a11 && (fl && ok2))) w) := by
  have HX := Lib.hid hx
  have HY := Lib.hid hy
  have HDO := Lib.hid hdo
  have HOK := Lib.hid hok
  have HF9 := Lib.hid hF
  clear hx hy hdo hok hF
  obtain ⟨b_A, hbx_A⟩ : ∃ b, b = w.heap.size := ⟨_, rfl⟩
  have kk_A : Blk ((w.alloc (.cells #[.slice (some ⟨g, 0, none⟩) n c, .int .i64 a0, .int .i64 a1, .int .i64 a2, .int .i64 a3, .int .i64 a4, .slice (some ⟨h, 0, none⟩) m d, .int .i64 a5, .int .i64 a6, .int .i64 a7, .int .i64 a8, .int .i64 a9, .int .i64 a10, .int .i64 a11] 45)).alloc (.cells #[.slice none 0 0, .int .i64 0, .int .i64 0, .int .i64 0, .int .i64 0, .int .i64 0, .slice none 0 0, .int .i64 0, .int .i64 0, .int .i64 0, .int .i64 0, .int .i64 0, .int .i64 0, .int .i64 0] 45)) b_A 45 #[.slice (some ⟨g, 0, none⟩) n c, .int .i64 a0, .int .i64 a1, .int .i64 a2, .int .i64 a3, .int .i64 a4, .slice (some ⟨h, 0, none⟩) m d, .int .i64 a5, .int .i64 a6, .int .i64 a7, .int .i64 a8, .int .i64 a9, .int .i64 a10, .int .i64 a11] := ((Blk.new' (w := w) (t := 45) (cs := #[.slice (some ⟨g, 0, none⟩) n c, .int .i64 a0, .int .i64 a1, .int .i64 a2, .int .i64 a3, .int .i64 a4, .slice (some ⟨h, 0, none⟩) m d, .int .i64 a5, .int .i64 a6, .int .i64 a7, .int .i64 a8, .int .i64 a9, .int .i64 a10, .int .i64 a11]) (g := b_A) (by simp [hbx_A])).alloc (.cells #[.slice none 0 0, .int .i64 0, .int .i64 0, .int .i64 0, .int .i64 0, .int .i64 0, .slice none 0 0, .int .i64 0, .int .i64 0, .int .i64 0, .int .i64 0, .int .i64 0, .int .i64 0, .int .i64 0] 45))
  have hwb_A : w.heap.size ≤ b_A := by omega
  obtain ⟨b_R, hbx_R⟩ : ∃ b, b = w.heap.size + 1 := ⟨_, rfl⟩
  have kk_R : Blk ((w.alloc (.cells #[.slice (some ⟨g, 0, none⟩) n c, .int .i64 a0, .int .i64 a1, .int .i64 a2, .int .i64 a3, .int .i64 a4, .slice (some ⟨h, 0, none⟩) m d, .int .i64 a5, .int .i64 a6, .int .i64 a7, .int .i64 a8, .int .i64 a9, .int .i64 a10, .int .i64 a11] 45)).alloc (.cells #[.slice none 0 0, .int .i64 0, .int .i64 0, .int .i64 0, .int .i64 0, .int .i64 0, .slice none 0 0, .int .i64 0, .int .i64 0, .int .i64 0, .int .i64 0, .int .i64 0, .int .i64 0, .int .i64 0] 45)) b_R 45 #[.slice none 0 0, .int .i64 0, .int .i64 0, .int .i64 0, .int .i64 0, .int .i64 0, .slice none 0 0, .int .i64 0, .int .i64 0, .int .i64 0, .int .i64 0, .int .i64 0, .int .i64 0, .int .i64 0] := (Blk.new' (w := (w.alloc (.cells #[.slice (some ⟨g, 0, none⟩) n c, .int .i64 a0, .int .i64 a1, .int .i64 a2, .int .i64 a3, .int .i64 a4, .slice (some ⟨h, 0, none⟩) m d, .int .i64 a5, .int .i64 a6, .int .i64 a7, .int .i64 a8, .int .i64 a9, .int .i64 a10, .int .i64 a11] 45))) (t := 45) (cs := #[.slice none 0 0, .int .i64 0, .int .i64 0, .int .i64 0, .int .i64 0, .int .i64 0, .slice none 0 0, .int .i64 0, .int .i64 0, .int .i64 0, .int .i64 0, .int .i64 0, .int .i64 0, .int .i64 0]) (g := b_R) (by simp [hbx_R]))
  have hwb_R : w.heap.size ≤ b_R := by omega
  have NB_A_R : Hid (b_A ≠ b_R) := Lib.hid (by omega)
  have hb_0 : Below w.heap.size w ((w.alloc (.cells #[.slice (some ⟨g, 0, none⟩) n c, .int .i64 a0, .int .i64 a1, .int .i64 a2, .int .i64 a3, .int .i64 a4, .slice (some ⟨h, 0, none⟩) m d, .int .i64 a5, .int .i64 a6, .int .i64 a7, .int .i64 a8, .int .i64 a9, .int .i64 a10, .int .i64 a11] 45)).alloc (.cells #[.slice none 0 0, .int .i64 0, .int .i64 0, .int .i64 0, .int .i64 0, .int .i64 0, .slice none 0 0, .int .i64 0, .int .i64 0, .int .i64 0, .int .i64 0, .int .i64 0, .int .i64 0, .int .i64 0] 45)) := by
    have h : In w.heap.size w ((w.alloc (.cells #[.slice (some ⟨g, 0, none⟩) n c, .int .i64 a0, .int .i64 a1, .int .i64 a2, .int .i64 a3, .int .i64 a4, .slice (some ⟨h, 0, none⟩) m d, .int .i64 a5, .int .i64 a6, .int .i64 a7, .int .i64 a8, .int .i64 a9, .int .i64 a10, .int .i64 a11] 45)).alloc (.cells #[.slice none 0 0, .int .i64 0, .int .i64 0, .int .i64 0, .int .i64 0, .int .i64 0, .slice none 0 0, .int .i64 0, .int .i64 0, .int .i64 0, .int .i64 0, .int .i64 0, .int .i64 0, .int .i64 0] 45)) := by (repeat (first | exact In.refl _ | assumption | apply In.alloc | apply In.drewN | apply In.drew | (refine In.step ?_ (by assumption))))
    exact h.below
  have hsz_0 : ((w.alloc (.cells #[.slice (some ⟨g, 0, none⟩) n c, .int .i64 a0, .int .i64 a1, .int .i64 a2, .int .i64 a3, .int .i64 a4, .slice (some ⟨h, 0, none⟩) m d, .int .i64 a5, .int .i64 a6, .int .i64 a7, .int .i64 a8, .int .i64 a9, .int .i64 a10, .int .i64 a11] 45)).alloc (.cells #[.slice none 0 0, .int .i64 0, .int .i64 0, .int .i64 0, .int .i64 0, .int .i64 0, .slice none 0 0, .int .i64 0, .int .i64 0, .int .i64 0, .int .i64 0, .int .i64 0, .int .i64 0, .int .i64 0] 45)).heap.size = b_R + 1 := by simp [hbx_R]
  go_enter Try.func40, Try.ntmps40
  go_wp2_with fail
  rw [← hbx_R]
  clear hbx_R
  rw [← hbx_A]
  clear hbx_A
  generalize ((w.alloc (.cells #[.slice (some ⟨g, 0, none⟩) n c, .int .i64 a0, .int .i64 a1, .int .i64 a2, .int .i64 a3, .int .i64 a4, .slice (some ⟨h, 0, none⟩) m d, .int .i64 a5, .int .i64 a6, .int .i64 a7, .int .i64 a8, .int .i64 a9, .int .i64 a10, .int .i64 a11] 45)).alloc (.cells #[.slice none 0 0, .int .i64 0, .int .i64 0, .int .i64 0, .int .i64 0, .int .i64 0, .slice none 0 0, .int .i64 0, .int .i64 0, .int .i64 0, .int .i64 0, .int .i64 0, .int .i64 0, .int .i64 0] 45)) = w_0 at *
  have i_0 : In w.heap.size w w_0 := In.step (by (repeat (first | exact In.refl _ | assumption | apply In.alloc | apply In.drewN | apply In.drew | (refine In.step ?_ (by assumption))))) hb_0
  have k_0_A : Blk w_0 b_A 45 #[.slice (some ⟨g, 0, none⟩) n c, .int .i64 a0, .int .i64 a1, .int .i64 a2, .int .i64 a3, .int .i64 a4, .slice (some ⟨h, 0, none⟩) m d, .int .i64 a5, .int .i64 a6, .int .i64 a7, .int .i64 a8, .int .i64 a9, .int .i64 a10, .int .i64 a11] := kk_A
  obtain ⟨c_0_A_0, c_0_A_1, c_0_A_2, c_0_A_3, c_0_A_4, c_0_A_5, c_0_A_6, c_0_A_7, c_0_A_8, c_0_A_9, c_0_A_10, c_0_A_11, c_0_A_12, c_0_A_13⟩ := cells14 k_0_A
  have l_0_A := k_0_A.lt
  have k_0_R : Blk w_0 b_R 45 #[.slice none 0 0, .int .i64 0, .int .i64 0, .int .i64 0, .int .i64 0, .int .i64 0, .slice none 0 0, .int .i64 0, .int .i64 0, .int .i64 0, .int .i64 0, .int .i64 0, .int .i64 0, .int .i64 0] := kk_R
  obtain ⟨c_0_R_0, c_0_R_1, c_0_R_2, c_0_R_3, c_0_R_4, c_0_R_5, c_0_R_6, c_0_R_7, c_0_R_8, c_0_R_9, c_0_R_10, c_0_R_11, c_0_R_12, c_0_R_13⟩ := cells14 k_0_R
  have l_0_R := k_0_R.lt
  have z_0_R := k_0_R.frozen
  clear kk_A kk_R
  have HI0 := Lib.hid i_0
  have HKA := Lib.hid k_0_A
  have HKR := Lib.hid k_0_R
  have HL9 : Hid (In w_0.heap.size w_0 (w_0.alloc (.cells #[.int .i32 0, .int .u32 0, .slice (some ⟨g, 0, none⟩) n c, .int .i64 a0, .int .i64 a1, .int .i64 a2, .int .i64 a3, .int .i64 a4, .slice (some ⟨h, 0, none⟩) m d, .int .i64 a5, .int .i64 a6, .int .i64 a7, .int .i64 a8, .int .i64 a9, .int .i64 a10, .int .i64 a11] 111))) := Lib.hid ((In.refl w_0).alloc _)
  go_wp2_with fail
  obtain ⟨b_L, hbx_L⟩ : ∃ b, b = w_0.heap.size := ⟨_, rfl⟩
  have hbx9 := hbx_L
  rw [hsz_0] at hbx9
  rw [← hbx9]
  clear hbx9
  have hwb_L : w.heap.size ≤ b_L := by have h := In.size i_0; omega
  have hnb_L : w_0.heap.size ≤ b_L := by omega
  have NB_A_L : Hid (b_A ≠ b_L) := Lib.hid (by have h := k_0_A.lt; omega)
  have NB_R_L : Hid (b_R ≠ b_L) := Lib.hid (by have h := k_0_R.lt; omega)
  have hb_1 : Below w_0.heap.size w_0 (w_0.alloc (.cells #[.int .i32 0, .int .u32 0, .slice (some ⟨g, 0, none⟩) n c, .int .i64 a0, .int .i64 a1, .int .i64 a2, .int .i64 a3, .int .i64 a4, .slice (some ⟨h, 0, none⟩) m d, .int .i64 a5, .int .i64 a6, .int .i64 a7, .int .i64 a8, .int .i64 a9, .int .i64 a10, .int .i64 a11] 111)) := (Below.refl _ _).alloc (Nat.le_refl _) _
  have kk_1 : Blk (w_0.alloc (.cells #[.int .i32 0, .int .u32 0, .slice (some ⟨g, 0, none⟩) n c, .int .i64 a0, .int .i64 a1, .int .i64 a2, .int .i64 a3, .int .i64 a4, .slice (some ⟨h, 0, none⟩) m d, .int .i64 a5, .int .i64 a6, .int .i64 a7, .int .i64 a8, .int .i64 a9, .int .i64 a10, .int .i64 a11] 111)) b_L 111 #[.int .i32 0, .int .u32 0, .slice (some ⟨g, 0, none⟩) n c, .int .i64 a0, .int .i64 a1, .int .i64 a2, .int .i64 a3, .int .i64 a4, .slice (some ⟨h, 0, none⟩) m d, .int .i64 a5, .int .i64 a6, .int .i64 a7, .int .i64 a8, .int .i64 a9, .int .i64 a10, .int .i64 a11] := Blk.new' hbx_L
  clear hbx_L
  have hL8 := HL9.out
  clear HL9
  generalize (w_0.alloc (.cells #[.int .i32 0, .int .u32 0, .slice (some ⟨g, 0, none⟩) n c, .int .i64 a0, .int .i64 a1, .int .i64 a2, .int .i64 a3, .int .i64 a4, .slice (some ⟨h, 0, none⟩) m d, .int .i64 a5, .int .i64 a6, .int .i64 a7, .int .i64 a8, .int .i64 a9, .int .i64 a10, .int .i64 a11] 111)) = w_1 at *
  have HL9 := Lib.hid hL8
  clear hL8
  have i_1 : In w.heap.size w w_1 := In.step (by (repeat (first | exact In.refl _ | assumption | apply In.alloc | apply In.drewN | apply In.drew | (refine In.step ?_ (by assumption))))) hb_1
  have k_1_A : Blk w_1 b_A 45 #[.slice (some ⟨g, 0, none⟩) n c, .int .i64 a0, .int .i64 a1, .int .i64 a2, .int .i64 a3, .int .i64 a4, .slice (some ⟨h, 0, none⟩) m d, .int .i64 a5, .int .i64 a6, .int .i64 a7, .int .i64 a8, .int .i64 a9, .int .i64 a10, .int .i64 a11] := Blk.step (by (with_reducible (repeat (first | assumption | exact Blk.new' (by simp) | apply Blk.drewN | apply Blk.drew | apply Blk.alloc | (refine Blk.far ?_ (by (try simp) <;> omega) _))))) hb_1
  obtain ⟨c_1_A_0, c_1_A_1, c_1_A_2, c_1_A_3, c_1_A_4, c_1_A_5, c_1_A_6, c_1_A_7, c_1_A_8, c_1_A_9, c_1_A_10, c_1_A_11, c_1_A_12, c_1_A_13⟩ := cells14 k_1_A
  have l_1_A := k_1_A.lt
  have k_1_R : Blk w_1 b_R 45 #[.slice none 0 0, .int .i64 0, .int .i64 0, .int .i64 0, .int .i64 0, .int .i64 0, .slice none 0 0, .int .i64 0, .int .i64 0, .int .i64 0, .int .i64 0, .int .i64 0, .int .i64 0, .int .i64 0] := Blk.step (by (with_reducible (repeat (first | assumption | exact Blk.new' (by simp) | apply Blk.drewN | apply Blk.drew | apply Blk.alloc | (refine Blk.far ?_ (by (try simp) <;> omega) _))))) hb_1
  obtain ⟨c_1_R_0, c_1_R_1, c_1_R_2, c_1_R_3, c_1_R_4, c_1_R_5, c_1_R_6, c_1_R_7, c_1_R_8, c_1_R_9, c_1_R_10, c_1_R_11, c_1_R_12, c_1_R_13⟩ := cells14 k_1_R
  have l_1_R := k_1_R.lt
  have z_1_R := k_1_R.frozen
  have k_1_L : Blk w_1 b_L 111 #[.int .i32 0, .int .u32 0, .slice (some ⟨g, 0, none⟩) n c, .int .i64 a0, .int .i64 a1, .int .i64 a2, .int .i64 a3, .int .i64 a4, .slice (some ⟨h, 0, none⟩) m d, .int .i64 a5, .int .i64 a6, .int .i64 a7, .int .i64 a8, .int .i64 a9, .int .i64 a10, .int .i64 a11] := kk_1
  have c_1_L_0 : w_1.cell? ⟨b_L, 0, none⟩ = some (.int .i32 0) := k_1_L.cell 0
  have c_1_L_1 : w_1.cell? ⟨b_L, 1, none⟩ = some (.int .u32 0) := k_1_L.cell 1
  have c_1_L_2 : w_1.cell? ⟨b_L, 2, none⟩ = some (.slice (some ⟨g, 0, none⟩) n c) := k_1_L.cell 2
  have c_1_L_3 : w_1.cell? ⟨b_L, 3, none⟩ = some (.int .i64 a0) := k_1_L.cell 3
  have c_1_L_4 : w_1.cell? ⟨b_L, 4, none⟩ = some (.int .i64 a1) := k_1_L.cell 4
  have c_1_L_5 : w_1.cell? ⟨b_L, 5, none⟩ = some (.int .i64 a2) := k_1_L.cell 5
  have c_1_L_6 : w_1.cell? ⟨b_L, 6, none⟩ = some (.int .i64 a3) := k_1_L.cell 6
  have c_1_L_7 : w_1.cell? ⟨b_L, 7, none⟩ = some (.int .i64 a4) := k_1_L.cell 7
  have c_1_L_8 : w_1.cell? ⟨b_L, 8, none⟩ = some (.slice (some ⟨h, 0, none⟩) m d) := k_1_L.cell 8
  have c_1_L_9 : w_1.cell? ⟨b_L, 9, none⟩ = some (.int .i64 a5) := k_1_L.cell 9
  have c_1_L_10 : w_1.cell? ⟨b_L, 10, none⟩ = some (.int .i64 a6) := k_1_L.cell 10
  have c_1_L_11 : w_1.cell? ⟨b_L, 11, none⟩ = some (.int .i64 a7) := k_1_L.cell 11
  have c_1_L_12 : w_1.cell? ⟨b_L, 12, none⟩ = some (.int .i64 a8) := k_1_L.cell 12
  have c_1_L_13 : w_1.cell? ⟨b_L, 13, none⟩ = some (.int .i64 a9) := k_1_L.cell 13
  have c_1_L_14 : w_1.cell? ⟨b_L, 14, none⟩ = some (.int .i64 a10) := k_1_L.cell 14
  have c_1_L_15 : w_1.cell? ⟨b_L, 15, none⟩ = some (.int .i64 a11) := k_1_L.cell 15
  have l_1_L := k_1_L.lt
  clear i_0 k_0_A c_0_A_0 c_0_A_1 c_0_A_2 c_0_A_3 c_0_A_4 c_0_A_5 c_0_A_6 c_0_A_7 c_0_A_8 c_0_A_9 c_0_A_10 c_0_A_11 c_0_A_12 c_0_A_13 l_0_A k_0_R c_0_R_0 c_0_R_1 c_0_R_2 c_0_R_3 c_0_R_4 c_0_R_5 c_0_R_6 c_0_R_7 c_0_R_8 c_0_R_9 c_0_R_10 c_0_R_11 c_0_R_12 c_0_R_13 l_0_R z_0_R hb_0
  clear kk_1
  refine (iwork F caps g n c xs h m d ys a0 a1 a2 a3 a4 a5 a6 a7 a8 a9 a10 a11 fl ok2 zs s0 s1 s2 s3 s4 s5 mo b_L w_0 w_1 HL9.out hnb_L k_1_L hn hm hz (HX.out.in_ HI0.out) (HY.out.in_ HI0.out) (HDO.out.up HI0.out) HF9.out HOK.out).mono ?_
  rintro _ w_2 ⟨gS_2, cS_2, gQ_2, cQ_2, rfl, hoS_2, hgS_2, hoQ_2, hgQ_2, hb_2⟩
  generalize (yOk n xs m ys a0 a1 a2 a3 a4 a5 a6 a7 a8 a9 a10 a11 && (fl && ok2)) = fn at *
  generalize pickE fn zs ys = zr at *
  generalize pick4 fn s0 a5 = r0 at *
  generalize pick4 fn s1 a6 = r1 at *
  generalize pick4 fn s2 a7 = r2 at *
  generalize pick4 fn s3 a8 = r3 at *
  generalize pick4 fn s4 a9 = r4 at *
  generalize pick4 fn s5 a10 = r5 at *
  generalize pick4 fn mo a11 = r6 at *
  have hsz9 := HI0.out.size
  have GX_S : Hid (w.heap.size ≤ gS_2) := Lib.hid (Nat.le_trans hsz9 hgS_2)
  have GX_Q : Hid (w.heap.size ≤ gQ_2) := Lib.hid (Nat.le_trans hsz9 hgQ_2)
  have NE_S_Q : Hid (gS_2 ≠ gQ_2) := Lib.hid (ne_OwnC_OCEvent hoS_2 hoQ_2)
  have i_2 : In w.heap.size w w_2 := HI0.out.step hb_2
  have k_2_A : Blk w_2 b_A 45 #[.slice (some ⟨g, 0, none⟩) n c, .int .i64 a0, .int .i64 a1, .int .i64 a2, .int .i64 a3, .int .i64 a4, .slice (some ⟨h, 0, none⟩) m d, .int .i64 a5, .int .i64 a6, .int .i64 a7, .int .i64 a8, .int .i64 a9, .int .i64 a10, .int .i64 a11] := HKA.out.step hb_2
  have k_2_R : Blk w_2 b_R 45 #[.slice none 0 0, .int .i64 0, .int .i64 0, .int .i64 0, .int .i64 0, .int .i64 0, .slice none 0 0, .int .i64 0, .int .i64 0, .int .i64 0, .int .i64 0, .int .i64 0, .int .i64 0, .int .i64 0] := HKR.out.step hb_2
  have o_2_S : OwnC w_2 gS_2 (n) cS_2 xs := hoS_2
  have o_2_Q : OCEvent w_2 gQ_2 (zr.length) cQ_2 zr := hoQ_2
  obtain ⟨c_2_R_0, c_2_R_1, c_2_R_2, c_2_R_3, c_2_R_4, c_2_R_5, c_2_R_6, c_2_R_7, c_2_R_8, c_2_R_9, c_2_R_10, c_2_R_11, c_2_R_12, c_2_R_13⟩ := cells14 k_2_R
  have l_2_R := k_2_R.lt
  have z_2_R := k_2_R.frozen
  clear hoS_2 hoQ_2 hgS_2 hgQ_2 hb_2 hsz9
  clear i_1 k_1_A c_1_A_0 c_1_A_1 c_1_A_2 c_1_A_3 c_1_A_4 c_1_A_5 c_1_A_6 c_1_A_7 c_1_A_8 c_1_A_9 c_1_A_10 c_1_A_11 c_1_A_12 c_1_A_13 l_1_A k_1_R c_1_R_0 c_1_R_1 c_1_R_2 c_1_R_3 c_1_R_4 c_1_R_5 c_1_R_6 c_1_R_7 c_1_R_8 c_1_R_9 c_1_R_10 c_1_R_11 c_1_R_12 c_1_R_13 l_1_R z_1_R k_1_L c_1_L_0 c_1_L_1 c_1_L_2 c_1_L_3 c_1_L_4 c_1_L_5 c_1_L_6 c_1_L_7 c_1_L_8 c_1_L_9 c_1_L_10 c_1_L_11 c_1_L_12 c_1_L_13 c_1_L_14 c_1_L_15 l_1_L hb_1
  have hn1_R_A : b_A ≠ b_R := by first | exact NB_A_R.out | exact NB_R_A.out.symm
  have hn2_R_A : b_R ≠ b_A := hn1_R_A.symm
  have kk : Blk ((((((((((((((w_2.setCell ⟨b_R, 0, none⟩ (.slice (some ⟨gS_2, 0, none⟩) n cS_2)).setCell ⟨b_R, 1, none⟩ (.int .i64 a0)).setCell ⟨b_R, 2, none⟩ (.int .i64 a1)).setCell ⟨b_R, 3, none⟩ (.int .i64 a2)).setCell ⟨b_R, 4, none⟩ (.int .i64 a3)).setCell ⟨b_R, 5, none⟩ (.int .i64 a4)).setCell ⟨b_R, 6, none⟩ (.slice (some ⟨gQ_2, 0, none⟩) zr.length cQ_2)).setCell ⟨b_R, 7, none⟩ (.int .i64 r0)).setCell ⟨b_R, 8, none⟩ (.int .i64 r1)).setCell ⟨b_R, 9, none⟩ (.int .i64 r2)).setCell ⟨b_R, 10, none⟩ (.int .i64 r3)).setCell ⟨b_R, 11, none⟩ (.int .i64 r4)).setCell ⟨b_R, 12, none⟩ (.int .i64 r5)).setCell ⟨b_R, 13, none⟩ (.int .i64 r6)) b_R 45 #[.slice (some ⟨gS_2, 0, none⟩) n cS_2, .int .i64 a0, .int .i64 a1, .int .i64 a2, .int .i64 a3, .int .i64 a4, .slice (some ⟨gQ_2, 0, none⟩) zr.length cQ_2, .int .i64 r0, .int .i64 r1, .int .i64 r2, .int .i64 r3, .int .i64 r4, .int .i64 r5, .int .i64 r6] := blks14 k_2_R
  have i9 : In w.heap.size w ((((((((((((((w_2.setCell ⟨b_R, 0, none⟩ (.slice (some ⟨gS_2, 0, none⟩) n cS_2)).setCell ⟨b_R, 1, none⟩ (.int .i64 a0)).setCell ⟨b_R, 2, none⟩ (.int .i64 a1)).setCell ⟨b_R, 3, none⟩ (.int .i64 a2)).setCell ⟨b_R, 4, none⟩ (.int .i64 a3)).setCell ⟨b_R, 5, none⟩ (.int .i64 a4)).setCell ⟨b_R, 6, none⟩ (.slice (some ⟨gQ_2, 0, none⟩) zr.length cQ_2)).setCell ⟨b_R, 7, none⟩ (.int .i64 r0)).setCell ⟨b_R, 8, none⟩ (.int .i64 r1)).setCell ⟨b_R, 9, none⟩ (.int .i64 r2)).setCell ⟨b_R, 10, none⟩ (.int .i64 r3)).setCell ⟨b_R, 11, none⟩ (.int .i64 r4)).setCell ⟨b_R, 12, none⟩ (.int .i64 r5)).setCell ⟨b_R, 13, none⟩ (.int .i64 r6)) := ins14 i_2 hwb_R
  have OS : Hid (OwnC ((((((((((((((w_2.setCell ⟨b_R, 0, none⟩ (.slice (some ⟨gS_2, 0, none⟩) n cS_2)).setCell ⟨b_R, 1, none⟩ (.int .i64 a0)).setCell ⟨b_R, 2, none⟩ (.int .i64 a1)).setCell ⟨b_R, 3, none⟩ (.int .i64 a2)).setCell ⟨b_R, 4, none⟩ (.int .i64 a3)).setCell ⟨b_R, 5, none⟩ (.int .i64 a4)).setCell ⟨b_R, 6, none⟩ (.slice (some ⟨gQ_2, 0, none⟩) zr.length cQ_2)).setCell ⟨b_R, 7, none⟩ (.int .i64 r0)).setCell ⟨b_R, 8, none⟩ (.int .i64 r1)).setCell ⟨b_R, 9, none⟩ (.int .i64 r2)).setCell ⟨b_R, 10, none⟩ (.int .i64 r3)).setCell ⟨b_R, 11, none⟩ (.int .i64 r4)).setCell ⟨b_R, 12, none⟩ (.int .i64 r5)).setCell ⟨b_R, 13, none⟩ (.int .i64 r6)) gS_2 (n) cS_2 xs) := Lib.hid (OwnC.far o_2_S k_2_R (by decide) only14)
  have OQ : Hid (OCEvent ((((((((((((((w_2.setCell ⟨b_R, 0, none⟩ (.slice (some ⟨gS_2, 0, none⟩) n cS_2)).setCell ⟨b_R, 1, none⟩ (.int .i64 a0)).setCell ⟨b_R, 2, none⟩ (.int .i64 a1)).setCell ⟨b_R, 3, none⟩ (.int .i64 a2)).setCell ⟨b_R, 4, none⟩ (.int .i64 a3)).setCell ⟨b_R, 5, none⟩ (.int .i64 a4)).setCell ⟨b_R, 6, none⟩ (.slice (some ⟨gQ_2, 0, none⟩) zr.length cQ_2)).setCell ⟨b_R, 7, none⟩ (.int .i64 r0)).setCell ⟨b_R, 8, none⟩ (.int .i64 r1)).setCell ⟨b_R, 9, none⟩ (.int .i64 r2)).setCell ⟨b_R, 10, none⟩ (.int .i64 r3)).setCell ⟨b_R, 11, none⟩ (.int .i64 r4)).setCell ⟨b_R, 12, none⟩ (.int .i64 r5)).setCell ⟨b_R, 13, none⟩ (.int .i64 r6)) gQ_2 (zr.length) cQ_2 zr) := Lib.hid (OCEvent.far o_2_Q k_2_R (by decide) only14)
  have HK0 : Hid ((_ : World).cell? ⟨b_R, 0, none⟩ = some (.slice (some ⟨gS_2, 0, none⟩) n cS_2)) := Lib.hid (kk.cell 0)
  have HK1 : Hid ((_ : World).cell? ⟨b_R, 1, none⟩ = some (.int .i64 a0)) := Lib.hid (kk.cell 1)
  have HK2 : Hid ((_ : World).cell? ⟨b_R, 2, none⟩ = some (.int .i64 a1)) := Lib.hid (kk.cell 2)
  have HK3 : Hid ((_ : World).cell? ⟨b_R, 3, none⟩ = some (.int .i64 a2)) := Lib.hid (kk.cell 3)
  have HK4 : Hid ((_ : World).cell? ⟨b_R, 4, none⟩ = some (.int .i64 a3)) := Lib.hid (kk.cell 4)
  have HK5 : Hid ((_ : World).cell? ⟨b_R, 5, none⟩ = some (.int .i64 a4)) := Lib.hid (kk.cell 5)
  have HK6 : Hid ((_ : World).cell? ⟨b_R, 6, none⟩ = some (.slice (some ⟨gQ_2, 0, none⟩) zr.length cQ_2)) := Lib.hid (kk.cell 6)
  have HK7 : Hid ((_ : World).cell? ⟨b_R, 7, none⟩ = some (.int .i64 r0)) := Lib.hid (kk.cell 7)
  have HK8 : Hid ((_ : World).cell? ⟨b_R, 8, none⟩ = some (.int .i64 r1)) := Lib.hid (kk.cell 8)
  have HK9 : Hid ((_ : World).cell? ⟨b_R, 9, none⟩ = some (.int .i64 r2)) := Lib.hid (kk.cell 9)
  have HK10 : Hid ((_ : World).cell? ⟨b_R, 10, none⟩ = some (.int .i64 r3)) := Lib.hid (kk.cell 10)
  have HK11 : Hid ((_ : World).cell? ⟨b_R, 11, none⟩ = some (.int .i64 r4)) := Lib.hid (kk.cell 11)
  have HK12 : Hid ((_ : World).cell? ⟨b_R, 12, none⟩ = some (.int .i64 r5)) := Lib.hid (kk.cell 12)
  have HK13 : Hid ((_ : World).cell? ⟨b_R, 13, none⟩ = some (.int .i64 r6)) := Lib.hid (kk.cell 13)
  clear kk
  clear o_2_S o_2_Q
  go_wp2
  have hk0 := HK0.out
  have hk1 := HK1.out
  have hk2 := HK2.out
  have hk3 := HK3.out
  have hk4 := HK4.out
  have hk5 := HK5.out
  have hk6 := HK6.out
  have hk7 := HK7.out
  have hk8 := HK8.out
  have hk9 := HK9.out
  have hk10 := HK10.out
  have hk11 := HK11.out
  have hk12 := HK12.out
  have hk13 := HK13.out
  exact bodyPost_ret (v := .tuple #[.agg #[.slice (some ⟨gS_2, 0, none⟩) n cS_2, .int .i64 a0, .int .i64 a1, .int .i64 a2, .int .i64 a3, .int .i64 a4, .slice (some ⟨gQ_2, 0, none⟩) zr.length cQ_2, .int .i64 r0, .int .i64 r1, .int .i64 r2, .int .i64 r3, .int .i64 r4, .int .i64 r5, .int .i64 r6], .bool fn]) (by simp [results, Try.results40, go_sem, hk0, hk1, hk2, hk3, hk4, hk5, hk6, hk7, hk8, hk9, hk10, hk11, hk12, hk13]) rfl (rowYV_of rfl rfl rfl rfl rfl rfl rfl rfl rfl OS.out GX_S.out OQ.out GX_Q.out i9.below)
end Go.Proofs.Ytmcfghklfkmfkaa
/- Chapter 38: NightOver. -/
namespace Go.Proofs.Ytmcfghklfkmfkaa
open Go.ChangeShapes Go.WideShapes Go.ChangeAt Go.RowKit
set_option linter.unusedVariables false
set_option linter.unusedSimpArgs false
set_option maxHeartbeats 2000000

set_option maxRecDepth 100000 in
set_option maxHeartbeats 8000000 in
theorem iNight1 (g n c h m d : Nat) (ys : List EventR) (a0 a1 a2 a3 a4 a5 a6 a7 a8 a9 a10 a11 : Int) (w : World) (hm : (m : Int) ≤ 1048576) (hy : ReadsEvent w (some ⟨h, 0, none⟩) m ys) :
    DoEn 41 #[] w g n c h m d a0 a1 a2 a3 a4 a5 a6 a7 a8 a9 a10 a11 (enB m ys a5 a6 a7 a8 a9 a10 4 0) (enL m ys a5 a6 a7 a8 a9 a10 4 0) (enS m ys a5 a6 a7 a8 a9 a10 4 0).r0 (enS m ys a5 a6 a7 a8 a9 a10 4 0).r1 (enS m ys a5 a6 a7 a8 a9 a10 4 0).r2 (enS m ys a5 a6 a7 a8 a9 a10 4 0).bk (enS m ys a5 a6 a7 a8 a9 a10 4 0).sd (enS m ys a5 a6 a7 a8 a9 a10 4 0).th a11 := by
  intro w0 b_B hI hbB kB
  have HY := Lib.hid (hy.in_ hI)
  clear hy hI hbB
  obtain ⟨zs, hzs⟩ : ∃ x, enL m ys a5 a6 a7 a8 a9 a10 4 0 = x := ⟨_, rfl⟩
  obtain ⟨s9, hs9⟩ : ∃ x, enS m ys a5 a6 a7 a8 a9 a10 4 0 = x := ⟨_, rfl⟩
  obtain ⟨fl, hfl⟩ : ∃ x, enB m ys a5 a6 a7 a8 a9 a10 4 0 = x := ⟨_, rfl⟩
  rw [hzs, hs9, hfl]
  obtain ⟨s0, s1, s2, s3, s4, s5⟩ := s9
  have HEN : Hid (∀ W : World, ReadsEvent W (some ⟨h, 0, none⟩) m ys → Calls Try.prog 42 #[.agg #[.slice (some ⟨h, 0, none⟩) m d, .int .i64 a5, .int .i64 a6, .int .i64 a7, .int .i64 a8, .int .i64 a9, .int .i64 a10], .agg #[.int .i64 4, .int .i64 0]] W (fun e w' => ∃ g c, e = .returned (.tuple #[.agg #[.slice (some ⟨g, 0, none⟩) zs.length c, .int .i64 s0, .int .i64 s1, .int .i64 s2, .int .i64 s3, .int .i64 s4, .int .i64 s5], .bool fl]) ∧ OCEvent w' g zs.length c zs ∧ W.heap.size ≤ g ∧ Below W.heap.size W w')) := Lib.hid (fun W hr => by
    have h9 := iEnter h m d ys a5 a6 a7 a8 a9 a10 4 0 W (by omega) hr
    rw [hzs, hs9, hfl] at h9
    exact h9)
  clear hzs hs9 hfl
  have hB : ∀ j, w0.cell? ⟨b_B, j, none⟩ = #[.slice (some ⟨g, 0, none⟩) n c, .int .i64 a0, .int .i64 a1, .int .i64 a2, .int .i64 a3, .int .i64 a4, .slice (some ⟨h, 0, none⟩) m d, .int .i64 a5, .int .i64 a6, .int .i64 a7, .int .i64 a8, .int .i64 a9, .int .i64 a10, .int .i64 a11][j]? := fun j => kB.cell j
  have hlB := kB.lt
  have cB0 : w0.cell? ⟨b_B, 0, none⟩ = some (.slice (some ⟨g, 0, none⟩) n c) := kB.cell 0
  have cB1 : w0.cell? ⟨b_B, 1, none⟩ = some (.int .i64 a0) := kB.cell 1
  have cB2 : w0.cell? ⟨b_B, 2, none⟩ = some (.int .i64 a1) := kB.cell 2
  have cB3 : w0.cell? ⟨b_B, 3, none⟩ = some (.int .i64 a2) := kB.cell 3
  have cB4 : w0.cell? ⟨b_B, 4, none⟩ = some (.int .i64 a3) := kB.cell 4
  have cB5 : w0.cell? ⟨b_B, 5, none⟩ = some (.int .i64 a4) := kB.cell 5
  have cB6 : w0.cell? ⟨b_B, 6, none⟩ = some (.slice (some ⟨h, 0, none⟩) m d) := kB.cell 6
  have cB7 : w0.cell? ⟨b_B, 7, none⟩ = some (.int .i64 a5) := kB.cell 7
  have cB8 : w0.cell? ⟨b_B, 8, none⟩ = some (.int .i64 a6) := kB.cell 8
  have cB9 : w0.cell? ⟨b_B, 9, none⟩ = some (.int .i64 a7) := kB.cell 9
  have cB10 : w0.cell? ⟨b_B, 10, none⟩ = some (.int .i64 a8) := kB.cell 10
  have cB11 : w0.cell? ⟨b_B, 11, none⟩ = some (.int .i64 a9) := kB.cell 11
  have cB12 : w0.cell? ⟨b_B, 12, none⟩ = some (.int .i64 a10) := kB.cell 12
  have cB13 : w0.cell? ⟨b_B, 13, none⟩ = some (.int .i64 a11) := kB.cell 13
  clear hB
  show Calls Try.prog 41 #[.pointer (some ⟨b_B, 0, none⟩)] w0 _
  go_enter Try.func41, Try.ntmps41
  go_wp2_with fail
  refine (HEN.out _ HY.out).mono ?_
  rintro _ w1 ⟨gz, cz, rfl, ho, hg, hb⟩
  have k1 := kB.step hb
  have hl1 := k1.lt
  have d6 := k1.cell 6
  simp only [List.getElem?_toArray, List.getElem?_cons_zero, List.getElem?_cons_succ] at d6
  have z6 := k1.frozen 6
  have d7 := k1.cell 7
  simp only [List.getElem?_toArray, List.getElem?_cons_zero, List.getElem?_cons_succ] at d7
  have z7 := k1.frozen 7
  have d8 := k1.cell 8
  simp only [List.getElem?_toArray, List.getElem?_cons_zero, List.getElem?_cons_succ] at d8
  have z8 := k1.frozen 8
  have d9 := k1.cell 9
  simp only [List.getElem?_toArray, List.getElem?_cons_zero, List.getElem?_cons_succ] at d9
  have z9 := k1.frozen 9
  have d10 := k1.cell 10
  simp only [List.getElem?_toArray, List.getElem?_cons_zero, List.getElem?_cons_succ] at d10
  have z10 := k1.frozen 10
  have d11 := k1.cell 11
  simp only [List.getElem?_toArray, List.getElem?_cons_zero, List.getElem?_cons_succ] at d11
  have z11 := k1.frozen 11
  have d12 := k1.cell 12
  simp only [List.getElem?_toArray, List.getElem?_cons_zero, List.getElem?_cons_succ] at d12
  have z12 := k1.frozen 12
  have K9 : Hid (Blk (((((((w1.setCell ⟨b_B, 6, none⟩ (.slice (some ⟨gz, 0, none⟩) zs.length cz)).setCell ⟨b_B, 7, none⟩ (.int .i64 s0)).setCell ⟨b_B, 8, none⟩ (.int .i64 s1)).setCell ⟨b_B, 9, none⟩ (.int .i64 s2)).setCell ⟨b_B, 10, none⟩ (.int .i64 s3)).setCell ⟨b_B, 11, none⟩ (.int .i64 s4)).setCell ⟨b_B, 12, none⟩ (.int .i64 s5)) b_B 45 #[.slice (some ⟨g, 0, none⟩) n c, .int .i64 a0, .int .i64 a1, .int .i64 a2, .int .i64 a3, .int .i64 a4, .slice (some ⟨gz, 0, none⟩) zs.length cz, .int .i64 s0, .int .i64 s1, .int .i64 s2, .int .i64 s3, .int .i64 s4, .int .i64 s5, .int .i64 a11]) := Lib.hid (by
    have h9 := (((((((k1.set_ 6 (.slice (some ⟨gz, 0, none⟩) zs.length cz)).set_ 7 (.int .i64 s0)).set_ 8 (.int .i64 s1)).set_ 9 (.int .i64 s2)).set_ 10 (.int .i64 s3)).set_ 11 (.int .i64 s4)).set_ 12 (.int .i64 s5))
    simpa using h9)
  have G9 : Hid (w0.grownBy (((((((w1.setCell ⟨b_B, 6, none⟩ (.slice (some ⟨gz, 0, none⟩) zs.length cz)).setCell ⟨b_B, 7, none⟩ (.int .i64 s0)).setCell ⟨b_B, 8, none⟩ (.int .i64 s1)).setCell ⟨b_B, 9, none⟩ (.int .i64 s2)).setCell ⟨b_B, 10, none⟩ (.int .i64 s3)).setCell ⟨b_B, 11, none⟩ (.int .i64 s4)).setCell ⟨b_B, 12, none⟩ (.int .i64 s5)) (some b_B)) := Lib.hid (only_setCell (only_setCell (only_setCell (only_setCell (only_setCell (only_setCell (only_setCell (only_of_below hb (some b_B)) (p := ⟨b_B, 6, none⟩) (.inl rfl) (.slice (some ⟨gz, 0, none⟩) zs.length cz)) (p := ⟨b_B, 7, none⟩) (.inl rfl) (.int .i64 s0)) (p := ⟨b_B, 8, none⟩) (.inl rfl) (.int .i64 s1)) (p := ⟨b_B, 9, none⟩) (.inl rfl) (.int .i64 s2)) (p := ⟨b_B, 10, none⟩) (.inl rfl) (.int .i64 s3)) (p := ⟨b_B, 11, none⟩) (.inl rfl) (.int .i64 s4)) (p := ⟨b_B, 12, none⟩) (.inl rfl) (.int .i64 s5))
  have O9 : Hid (OCEvent (((((((w1.setCell ⟨b_B, 6, none⟩ (.slice (some ⟨gz, 0, none⟩) zs.length cz)).setCell ⟨b_B, 7, none⟩ (.int .i64 s0)).setCell ⟨b_B, 8, none⟩ (.int .i64 s1)).setCell ⟨b_B, 9, none⟩ (.int .i64 s2)).setCell ⟨b_B, 10, none⟩ (.int .i64 s3)).setCell ⟨b_B, 11, none⟩ (.int .i64 s4)).setCell ⟨b_B, 12, none⟩ (.int .i64 s5)) gz zs.length cz zs) := Lib.hid (OCEvent.far ho k1 (by decide) only7)
  have HG := Lib.hid hg
  clear ho hb k1 kB hg cB0 cB1 cB2 cB3 cB4 cB5 cB6 cB7 cB8 cB9 cB10 cB11 cB12 cB13
  go_wp2
  go_ret
  exact ⟨gz, cz, rfl, K9.out, O9.out, HG.out, G9.out⟩
theorem night_val {n : Nat} {xs : List Int} {m : Nat} {ys : List EventR} {a0 a1 a2 a3 a4 a5 a6 a7 a8 a9 a10 a11 : Int} (hl : ys.length = m) : (yOk n xs m ys a0 a1 a2 a3 a4 a5 a6 a7 a8 a9 a10 a11 && (enB m ys a5 a6 a7 a8 a9 a10 4 0 && yOk n xs (enL m ys a5 a6 a7 a8 a9 a10 4 0).length (enL m ys a5 a6 a7 a8 a9 a10 4 0) a0 a1 a2 a3 a4 (enS m ys a5 a6 a7 a8 a9 a10 4 0).r0 (enS m ys a5 a6 a7 a8 a9 a10 4 0).r1 (enS m ys a5 a6 a7 a8 a9 a10 4 0).r2 (enS m ys a5 a6 a7 a8 a9 a10 4 0).bk (enS m ys a5 a6 a7 a8 a9 a10 4 0).sd (enS m ys a5 a6 a7 a8 a9 a10 4 0).th a11)) = yeB n xs m ys a0 a1 a2 a3 a4 a5 a6 a7 a8 a9 a10 a11 4 0 0 := by
  cases h1 : yOk n xs m ys a0 a1 a2 a3 a4 a5 a6 a7 a8 a9 a10 a11
  · simp [yeB, h1]
  cases h2 : enB m ys a5 a6 a7 a8 a9 a10 4 0
  · simp [yeB, h1, h2]
  have h3 := yOk_en (dm := 0) hl h1 h2
  simp only [Int.add_zero] at h3
  simp only [yeB, h1, h2, h3, Int.add_zero]
set_option maxRecDepth 100000 in
set_option maxHeartbeats 8000000 in
theorem iNightOver (g n c : Nat) (xs : List Int) (h m d : Nat) (ys : List EventR) (a0 a1 a2 a3 a4 a5 a6 a7 a8 a9 a10 a11 : Int) (w : World) (hn : (n : Int) ≤ 1048576) (hm : (m : Int) ≤ 1048576) (hx : ReadsI w (some ⟨g, 0, none⟩) n xs) (hy : ReadsEvent w (some ⟨h, 0, none⟩) m ys) : Calls Try.prog 11 #[.agg #[.slice (some ⟨g, 0, none⟩) n c, .int .i64 a0, .int .i64 a1, .int .i64 a2, .int .i64 a3, .int .i64 a4, .slice (some ⟨h, 0, none⟩) m d, .int .i64 a5, .int .i64 a6, .int .i64 a7, .int .i64 a8, .int .i64 a9, .int .i64 a10, .int .i64 a11]] w (RowYV n xs (yeL n xs m ys a0 a1 a2 a3 a4 a5 a6 a7 a8 a9 a10 a11 4 0 0).length (yeL n xs m ys a0 a1 a2 a3 a4 a5 a6 a7 a8 a9 a10 a11 4 0 0) a0 a1 a2 a3 a4 (yeS n xs m ys a0 a1 a2 a3 a4 a5 a6 a7 a8 a9 a10 a11 4 0 0).r0 (yeS n xs m ys a0 a1 a2 a3 a4 a5 a6 a7 a8 a9 a10 a11 4 0 0).r1 (yeS n xs m ys a0 a1 a2 a3 a4 a5 a6 a7 a8 a9 a10 a11 4 0 0).r2 (yeS n xs m ys a0 a1 a2 a3 a4 a5 a6 a7 a8 a9 a10 a11 4 0 0).bk (yeS n xs m ys a0 a1 a2 a3 a4 a5 a6 a7 a8 a9 a10 a11 4 0 0).sd (yeS n xs m ys a0 a1 a2 a3 a4 a5 a6 a7 a8 a9 a10 a11 4 0 0).th (yeM n xs m ys a0 a1 a2 a3 a4 a5 a6 a7 a8 a9 a10 a11 4 0 0) (.bool (yeB n xs m ys a0 a1 a2 a3 a4 a5 a6 a7 a8 a9 a10 a11 4 0 0)) w) := by
  have hlen := hy.1
  have HV := Lib.hid (night_val (n := n) (xs := xs) (a0 := a0) (a1 := a1) (a2 := a2) (a3 := a3) (a4 := a4) (a5 := a5) (a6 := a6) (a7 := a7) (a8 := a8) (a9 := a9) (a10 := a10) (a11 := a11) hlen)
  have HWI : Hid (∀ W, In w.heap.size w W → Calls Try.prog 40 #[.agg #[.slice (some ⟨g, 0, none⟩) n c, .int .i64 a0, .int .i64 a1, .int .i64 a2, .int .i64 a3, .int .i64 a4, .slice (some ⟨h, 0, none⟩) m d, .int .i64 a5, .int .i64 a6, .int .i64 a7, .int .i64 a8, .int .i64 a9, .int .i64 a10, .int .i64 a11], .func (Fn.func 41) #[] #[]] W (RowYV n xs (yeL n xs m ys a0 a1 a2 a3 a4 a5 a6 a7 a8 a9 a10 a11 4 0 0).length (yeL n xs m ys a0 a1 a2 a3 a4 a5 a6 a7 a8 a9 a10 a11 4 0 0) a0 a1 a2 a3 a4 (yeS n xs m ys a0 a1 a2 a3 a4 a5 a6 a7 a8 a9 a10 a11 4 0 0).r0 (yeS n xs m ys a0 a1 a2 a3 a4 a5 a6 a7 a8 a9 a10 a11 4 0 0).r1 (yeS n xs m ys a0 a1 a2 a3 a4 a5 a6 a7 a8 a9 a10 a11 4 0 0).r2 (yeS n xs m ys a0 a1 a2 a3 a4 a5 a6 a7 a8 a9 a10 a11 4 0 0).bk (yeS n xs m ys a0 a1 a2 a3 a4 a5 a6 a7 a8 a9 a10 a11 4 0 0).sd (yeS n xs m ys a0 a1 a2 a3 a4 a5 a6 a7 a8 a9 a10 a11 4 0 0).th (yeM n xs m ys a0 a1 a2 a3 a4 a5 a6 a7 a8 a9 a10 a11 4 0 0) (.bool (yeB n xs m ys a0 a1 a2 a3 a4 a5 a6 a7 a8 a9 a10 a11 4 0 0)) W)) := Lib.hid (fun W hI => by
    have h9 := iworkIn 41 #[] g n c xs h m d ys a0 a1 a2 a3 a4 a5 a6 a7 a8 a9 a10 a11 (enB m ys a5 a6 a7 a8 a9 a10 4 0) _ (enL m ys a5 a6 a7 a8 a9 a10 4 0) (enS m ys a5 a6 a7 a8 a9 a10 4 0).r0 (enS m ys a5 a6 a7 a8 a9 a10 4 0).r1 (enS m ys a5 a6 a7 a8 a9 a10 4 0).r2 (enS m ys a5 a6 a7 a8 a9 a10 4 0).bk (enS m ys a5 a6 a7 a8 a9 a10 4 0).sd (enS m ys a5 a6 a7 a8 a9 a10 4 0).th a11 W hn hm (by have := enL_le (y0 := a5) (y1 := a6) (y2 := a7) (y3 := a8) (y4 := a9) (y5 := a10) (x0 := 4) (x1 := 0) hlen (by omega); omega) (hx.in_ hI) (hy.in_ hI) ((iNight1 g n c h m d ys a0 a1 a2 a3 a4 a5 a6 a7 a8 a9 a10 a11 w hm hy).up hI) (fun args W => by kernel_rfl) rfl
    rw [HV.out] at h9
    refine h9.mono fun e w' h => ?_
    have e1 : pickE (yeB n xs m ys a0 a1 a2 a3 a4 a5 a6 a7 a8 a9 a10 a11 4 0 0) (enL m ys a5 a6 a7 a8 a9 a10 4 0) ys = yeL n xs m ys a0 a1 a2 a3 a4 a5 a6 a7 a8 a9 a10 a11 4 0 0 := by unfold pickE yeL; rfl
    have e2 : ∀ (p : BkS → Int) (q : Int), p ⟨a5, a6, a7, a8, a9, a10⟩ = q → pick4 (yeB n xs m ys a0 a1 a2 a3 a4 a5 a6 a7 a8 a9 a10 a11 4 0 0) (p (enS m ys a5 a6 a7 a8 a9 a10 4 0)) q = p (yeS n xs m ys a0 a1 a2 a3 a4 a5 a6 a7 a8 a9 a10 a11 4 0 0) := fun p q hq => by unfold pick4 yeS; cases yeB n xs m ys a0 a1 a2 a3 a4 a5 a6 a7 a8 a9 a10 a11 4 0 0 <;> simp [hq]
    have e3 : pick4 (yeB n xs m ys a0 a1 a2 a3 a4 a5 a6 a7 a8 a9 a10 a11 4 0 0) a11 a11 = yeM n xs m ys a0 a1 a2 a3 a4 a5 a6 a7 a8 a9 a10 a11 4 0 0 := by unfold pick4 yeM; cases yeB n xs m ys a0 a1 a2 a3 a4 a5 a6 a7 a8 a9 a10 a11 4 0 0 <;> simp
    rw [e1, e2 BkS.r0 a5 rfl, e2 BkS.r1 a6 rfl, e2 BkS.r2 a7 rfl, e2 BkS.bk a8 rfl, e2 BkS.sd a9 rfl, e2 BkS.th a10 rfl, e3] at h
    exact h)
  clear hx hy HV
  generalize yeL n xs m ys a0 a1 a2 a3 a4 a5 a6 a7 a8 a9 a10 a11 4 0 0 = zr at *
  generalize yeS n xs m ys a0 a1 a2 a3 a4 a5 a6 a7 a8 a9 a10 a11 4 0 0 = sr at *
  generalize yeM n xs m ys a0 a1 a2 a3 a4 a5 a6 a7 a8 a9 a10 a11 4 0 0 = mr at *
  generalize yeB n xs m ys a0 a1 a2 a3 a4 a5 a6 a7 a8 a9 a10 a11 4 0 0 = fr at *
  obtain ⟨r0, r1, r2, r3, r4, r5⟩ := sr
  obtain ⟨b_A, hbx_A⟩ : ∃ b, b = w.heap.size := ⟨_, rfl⟩
  have kk_A : Blk ((w.alloc (.cells #[.slice (some ⟨g, 0, none⟩) n c, .int .i64 a0, .int .i64 a1, .int .i64 a2, .int .i64 a3, .int .i64 a4, .slice (some ⟨h, 0, none⟩) m d, .int .i64 a5, .int .i64 a6, .int .i64 a7, .int .i64 a8, .int .i64 a9, .int .i64 a10, .int .i64 a11] 45)).alloc (.cells #[.slice none 0 0, .int .i64 0, .int .i64 0, .int .i64 0, .int .i64 0, .int .i64 0, .slice none 0 0, .int .i64 0, .int .i64 0, .int .i64 0, .int .i64 0, .int .i64 0, .int .i64 0, .int .i64 0] 45)) b_A 45 #[.slice (some ⟨g, 0, none⟩) n c, .int .i64 a0, .int .i64 a1, .int .i64 a2, .int .i64 a3, .int .i64 a4, .slice (some ⟨h, 0, none⟩) m d, .int .i64 a5, .int .i64 a6, .int .i64 a7, .int .i64 a8, .int .i64 a9, .int .i64 a10, .int .i64 a11] := ((Blk.new' (w := w) (t := 45) (cs := #[.slice (some ⟨g, 0, none⟩) n c, .int .i64 a0, .int .i64 a1, .int .i64 a2, .int .i64 a3, .int .i64 a4, .slice (some ⟨h, 0, none⟩) m d, .int .i64 a5, .int .i64 a6, .int .i64 a7, .int .i64 a8, .int .i64 a9, .int .i64 a10, .int .i64 a11]) (g := b_A) (by simp [hbx_A])).alloc (.cells #[.slice none 0 0, .int .i64 0, .int .i64 0, .int .i64 0, .int .i64 0, .int .i64 0, .slice none 0 0, .int .i64 0, .int .i64 0, .int .i64 0, .int .i64 0, .int .i64 0, .int .i64 0, .int .i64 0] 45))
  have hwb_A : w.heap.size ≤ b_A := by omega
  obtain ⟨b_R, hbx_R⟩ : ∃ b, b = w.heap.size + 1 := ⟨_, rfl⟩
  have kk_R : Blk ((w.alloc (.cells #[.slice (some ⟨g, 0, none⟩) n c, .int .i64 a0, .int .i64 a1, .int .i64 a2, .int .i64 a3, .int .i64 a4, .slice (some ⟨h, 0, none⟩) m d, .int .i64 a5, .int .i64 a6, .int .i64 a7, .int .i64 a8, .int .i64 a9, .int .i64 a10, .int .i64 a11] 45)).alloc (.cells #[.slice none 0 0, .int .i64 0, .int .i64 0, .int .i64 0, .int .i64 0, .int .i64 0, .slice none 0 0, .int .i64 0, .int .i64 0, .int .i64 0, .int .i64 0, .int .i64 0, .int .i64 0, .int .i64 0] 45)) b_R 45 #[.slice none 0 0, .int .i64 0, .int .i64 0, .int .i64 0, .int .i64 0, .int .i64 0, .slice none 0 0, .int .i64 0, .int .i64 0, .int .i64 0, .int .i64 0, .int .i64 0, .int .i64 0, .int .i64 0] := (Blk.new' (w := (w.alloc (.cells #[.slice (some ⟨g, 0, none⟩) n c, .int .i64 a0, .int .i64 a1, .int .i64 a2, .int .i64 a3, .int .i64 a4, .slice (some ⟨h, 0, none⟩) m d, .int .i64 a5, .int .i64 a6, .int .i64 a7, .int .i64 a8, .int .i64 a9, .int .i64 a10, .int .i64 a11] 45))) (t := 45) (cs := #[.slice none 0 0, .int .i64 0, .int .i64 0, .int .i64 0, .int .i64 0, .int .i64 0, .slice none 0 0, .int .i64 0, .int .i64 0, .int .i64 0, .int .i64 0, .int .i64 0, .int .i64 0, .int .i64 0]) (g := b_R) (by simp [hbx_R]))
  have hwb_R : w.heap.size ≤ b_R := by omega
  have NB_A_R : Hid (b_A ≠ b_R) := Lib.hid (by omega)
  have hb_0 : Below w.heap.size w ((w.alloc (.cells #[.slice (some ⟨g, 0, none⟩) n c, .int .i64 a0, .int .i64 a1, .int .i64 a2, .int .i64 a3, .int .i64 a4, .slice (some ⟨h, 0, none⟩) m d, .int .i64 a5, .int .i64 a6, .int .i64 a7, .int .i64 a8, .int .i64 a9, .int .i64 a10, .int .i64 a11] 45)).alloc (.cells #[.slice none 0 0, .int .i64 0, .int .i64 0, .int .i64 0, .int .i64 0, .int .i64 0, .slice none 0 0, .int .i64 0, .int .i64 0, .int .i64 0, .int .i64 0, .int .i64 0, .int .i64 0, .int .i64 0] 45)) := by
    have h : In w.heap.size w ((w.alloc (.cells #[.slice (some ⟨g, 0, none⟩) n c, .int .i64 a0, .int .i64 a1, .int .i64 a2, .int .i64 a3, .int .i64 a4, .slice (some ⟨h, 0, none⟩) m d, .int .i64 a5, .int .i64 a6, .int .i64 a7, .int .i64 a8, .int .i64 a9, .int .i64 a10, .int .i64 a11] 45)).alloc (.cells #[.slice none 0 0, .int .i64 0, .int .i64 0, .int .i64 0, .int .i64 0, .int .i64 0, .slice none 0 0, .int .i64 0, .int .i64 0, .int .i64 0, .int .i64 0, .int .i64 0, .int .i64 0, .int .i64 0] 45)) := by (repeat (first | exact In.refl _ | assumption | apply In.alloc | apply In.drewN | apply In.drew | (refine In.step ?_ (by assumption))))
    exact h.below
  have hsz_0 : ((w.alloc (.cells #[.slice (some ⟨g, 0, none⟩) n c, .int .i64 a0, .int .i64 a1, .int .i64 a2, .int .i64 a3, .int .i64 a4, .slice (some ⟨h, 0, none⟩) m d, .int .i64 a5, .int .i64 a6, .int .i64 a7, .int .i64 a8, .int .i64 a9, .int .i64 a10, .int .i64 a11] 45)).alloc (.cells #[.slice none 0 0, .int .i64 0, .int .i64 0, .int .i64 0, .int .i64 0, .int .i64 0, .slice none 0 0, .int .i64 0, .int .i64 0, .int .i64 0, .int .i64 0, .int .i64 0, .int .i64 0, .int .i64 0] 45)).heap.size = b_R + 1 := by simp [hbx_R]
  go_enter Try.func11, Try.ntmps11
  go_wp2_with fail
  rw [← hbx_R]
  clear hbx_R
  rw [← hbx_A]
  clear hbx_A
  generalize ((w.alloc (.cells #[.slice (some ⟨g, 0, none⟩) n c, .int .i64 a0, .int .i64 a1, .int .i64 a2, .int .i64 a3, .int .i64 a4, .slice (some ⟨h, 0, none⟩) m d, .int .i64 a5, .int .i64 a6, .int .i64 a7, .int .i64 a8, .int .i64 a9, .int .i64 a10, .int .i64 a11] 45)).alloc (.cells #[.slice none 0 0, .int .i64 0, .int .i64 0, .int .i64 0, .int .i64 0, .int .i64 0, .slice none 0 0, .int .i64 0, .int .i64 0, .int .i64 0, .int .i64 0, .int .i64 0, .int .i64 0, .int .i64 0] 45)) = w_0 at *
  have i_0 : In w.heap.size w w_0 := In.step (by (repeat (first | exact In.refl _ | assumption | apply In.alloc | apply In.drewN | apply In.drew | (refine In.step ?_ (by assumption))))) hb_0
  have k_0_A : Blk w_0 b_A 45 #[.slice (some ⟨g, 0, none⟩) n c, .int .i64 a0, .int .i64 a1, .int .i64 a2, .int .i64 a3, .int .i64 a4, .slice (some ⟨h, 0, none⟩) m d, .int .i64 a5, .int .i64 a6, .int .i64 a7, .int .i64 a8, .int .i64 a9, .int .i64 a10, .int .i64 a11] := kk_A
  obtain ⟨c_0_A_0, c_0_A_1, c_0_A_2, c_0_A_3, c_0_A_4, c_0_A_5, c_0_A_6, c_0_A_7, c_0_A_8, c_0_A_9, c_0_A_10, c_0_A_11, c_0_A_12, c_0_A_13⟩ := cells14 k_0_A
  have l_0_A := k_0_A.lt
  have k_0_R : Blk w_0 b_R 45 #[.slice none 0 0, .int .i64 0, .int .i64 0, .int .i64 0, .int .i64 0, .int .i64 0, .slice none 0 0, .int .i64 0, .int .i64 0, .int .i64 0, .int .i64 0, .int .i64 0, .int .i64 0, .int .i64 0] := kk_R
  obtain ⟨c_0_R_0, c_0_R_1, c_0_R_2, c_0_R_3, c_0_R_4, c_0_R_5, c_0_R_6, c_0_R_7, c_0_R_8, c_0_R_9, c_0_R_10, c_0_R_11, c_0_R_12, c_0_R_13⟩ := cells14 k_0_R
  have l_0_R := k_0_R.lt
  have z_0_R := k_0_R.frozen
  clear kk_A kk_R
  go_wp2_with fail
  refine (HWI.out _ (by (repeat (first | exact In.refl _ | assumption | apply In.alloc | apply In.drewN | apply In.drew | (refine In.step ?_ (by assumption)))))).mono ?_
  rintro _ w_1 ⟨gS_1, cS_1, gQ_1, cQ_1, rfl, hoS_1, hgS_1, hoQ_1, hgQ_1, hb_1⟩
  have GX_S : Hid (w.heap.size ≤ gS_1) := Lib.hid (by have h1 := hgS_1; (try simp at h1); have h2 := In.size i_0; omega)
  have o_1_S : OwnC w_1 gS_1 (n) cS_1 xs := hoS_1
  clear hoS_1 hgS_1
  have NE_S_Q : Hid (gS_1 ≠ gQ_1) := Lib.hid (ne_OwnC_OCEvent o_1_S hoQ_1)
  have GX_Q : Hid (w.heap.size ≤ gQ_1) := Lib.hid (by have h1 := hgQ_1; (try simp at h1); have h2 := In.size i_0; omega)
  have o_1_Q : OCEvent w_1 gQ_1 (zr.length) cQ_1 zr := hoQ_1
  clear hoQ_1 hgQ_1
  have i_1 : In w.heap.size w w_1 := In.step (by (repeat (first | exact In.refl _ | assumption | apply In.alloc | apply In.drewN | apply In.drew | (refine In.step ?_ (by assumption))))) hb_1
  have k_1_A : Blk w_1 b_A 45 #[.slice (some ⟨g, 0, none⟩) n c, .int .i64 a0, .int .i64 a1, .int .i64 a2, .int .i64 a3, .int .i64 a4, .slice (some ⟨h, 0, none⟩) m d, .int .i64 a5, .int .i64 a6, .int .i64 a7, .int .i64 a8, .int .i64 a9, .int .i64 a10, .int .i64 a11] := Blk.step (by (with_reducible (repeat (first | assumption | exact Blk.new' (by simp) | apply Blk.drewN | apply Blk.drew | apply Blk.alloc | (refine Blk.far ?_ (by (try simp) <;> omega) _))))) hb_1
  obtain ⟨c_1_A_0, c_1_A_1, c_1_A_2, c_1_A_3, c_1_A_4, c_1_A_5, c_1_A_6, c_1_A_7, c_1_A_8, c_1_A_9, c_1_A_10, c_1_A_11, c_1_A_12, c_1_A_13⟩ := cells14 k_1_A
  have l_1_A := k_1_A.lt
  have k_1_R : Blk w_1 b_R 45 #[.slice none 0 0, .int .i64 0, .int .i64 0, .int .i64 0, .int .i64 0, .int .i64 0, .slice none 0 0, .int .i64 0, .int .i64 0, .int .i64 0, .int .i64 0, .int .i64 0, .int .i64 0, .int .i64 0] := Blk.step (by (with_reducible (repeat (first | assumption | exact Blk.new' (by simp) | apply Blk.drewN | apply Blk.drew | apply Blk.alloc | (refine Blk.far ?_ (by (try simp) <;> omega) _))))) hb_1
  obtain ⟨c_1_R_0, c_1_R_1, c_1_R_2, c_1_R_3, c_1_R_4, c_1_R_5, c_1_R_6, c_1_R_7, c_1_R_8, c_1_R_9, c_1_R_10, c_1_R_11, c_1_R_12, c_1_R_13⟩ := cells14 k_1_R
  have l_1_R := k_1_R.lt
  have z_1_R := k_1_R.frozen
  clear i_0 k_0_A c_0_A_0 c_0_A_1 c_0_A_2 c_0_A_3 c_0_A_4 c_0_A_5 c_0_A_6 c_0_A_7 c_0_A_8 c_0_A_9 c_0_A_10 c_0_A_11 c_0_A_12 c_0_A_13 l_0_A k_0_R c_0_R_0 c_0_R_1 c_0_R_2 c_0_R_3 c_0_R_4 c_0_R_5 c_0_R_6 c_0_R_7 c_0_R_8 c_0_R_9 c_0_R_10 c_0_R_11 c_0_R_12 c_0_R_13 l_0_R z_0_R hb_0
  have hn1_R_A : b_A ≠ b_R := by first | exact NB_A_R.out | exact NB_R_A.out.symm
  have hn2_R_A : b_R ≠ b_A := hn1_R_A.symm
  have kk : Blk ((((((((((((((w_1.setCell ⟨b_R, 0, none⟩ (.slice (some ⟨gS_1, 0, none⟩) n cS_1)).setCell ⟨b_R, 1, none⟩ (.int .i64 a0)).setCell ⟨b_R, 2, none⟩ (.int .i64 a1)).setCell ⟨b_R, 3, none⟩ (.int .i64 a2)).setCell ⟨b_R, 4, none⟩ (.int .i64 a3)).setCell ⟨b_R, 5, none⟩ (.int .i64 a4)).setCell ⟨b_R, 6, none⟩ (.slice (some ⟨gQ_1, 0, none⟩) zr.length cQ_1)).setCell ⟨b_R, 7, none⟩ (.int .i64 r0)).setCell ⟨b_R, 8, none⟩ (.int .i64 r1)).setCell ⟨b_R, 9, none⟩ (.int .i64 r2)).setCell ⟨b_R, 10, none⟩ (.int .i64 r3)).setCell ⟨b_R, 11, none⟩ (.int .i64 r4)).setCell ⟨b_R, 12, none⟩ (.int .i64 r5)).setCell ⟨b_R, 13, none⟩ (.int .i64 mr)) b_R 45 #[.slice (some ⟨gS_1, 0, none⟩) n cS_1, .int .i64 a0, .int .i64 a1, .int .i64 a2, .int .i64 a3, .int .i64 a4, .slice (some ⟨gQ_1, 0, none⟩) zr.length cQ_1, .int .i64 r0, .int .i64 r1, .int .i64 r2, .int .i64 r3, .int .i64 r4, .int .i64 r5, .int .i64 mr] := blks14 k_1_R
  have i9 : In w.heap.size w ((((((((((((((w_1.setCell ⟨b_R, 0, none⟩ (.slice (some ⟨gS_1, 0, none⟩) n cS_1)).setCell ⟨b_R, 1, none⟩ (.int .i64 a0)).setCell ⟨b_R, 2, none⟩ (.int .i64 a1)).setCell ⟨b_R, 3, none⟩ (.int .i64 a2)).setCell ⟨b_R, 4, none⟩ (.int .i64 a3)).setCell ⟨b_R, 5, none⟩ (.int .i64 a4)).setCell ⟨b_R, 6, none⟩ (.slice (some ⟨gQ_1, 0, none⟩) zr.length cQ_1)).setCell ⟨b_R, 7, none⟩ (.int .i64 r0)).setCell ⟨b_R, 8, none⟩ (.int .i64 r1)).setCell ⟨b_R, 9, none⟩ (.int .i64 r2)).setCell ⟨b_R, 10, none⟩ (.int .i64 r3)).setCell ⟨b_R, 11, none⟩ (.int .i64 r4)).setCell ⟨b_R, 12, none⟩ (.int .i64 r5)).setCell ⟨b_R, 13, none⟩ (.int .i64 mr)) := ins14 i_1 hwb_R
  have OS : Hid (OwnC ((((((((((((((w_1.setCell ⟨b_R, 0, none⟩ (.slice (some ⟨gS_1, 0, none⟩) n cS_1)).setCell ⟨b_R, 1, none⟩ (.int .i64 a0)).setCell ⟨b_R, 2, none⟩ (.int .i64 a1)).setCell ⟨b_R, 3, none⟩ (.int .i64 a2)).setCell ⟨b_R, 4, none⟩ (.int .i64 a3)).setCell ⟨b_R, 5, none⟩ (.int .i64 a4)).setCell ⟨b_R, 6, none⟩ (.slice (some ⟨gQ_1, 0, none⟩) zr.length cQ_1)).setCell ⟨b_R, 7, none⟩ (.int .i64 r0)).setCell ⟨b_R, 8, none⟩ (.int .i64 r1)).setCell ⟨b_R, 9, none⟩ (.int .i64 r2)).setCell ⟨b_R, 10, none⟩ (.int .i64 r3)).setCell ⟨b_R, 11, none⟩ (.int .i64 r4)).setCell ⟨b_R, 12, none⟩ (.int .i64 r5)).setCell ⟨b_R, 13, none⟩ (.int .i64 mr)) gS_1 (n) cS_1 xs) := Lib.hid (OwnC.far o_1_S k_1_R (by decide) only14)
  have OQ : Hid (OCEvent ((((((((((((((w_1.setCell ⟨b_R, 0, none⟩ (.slice (some ⟨gS_1, 0, none⟩) n cS_1)).setCell ⟨b_R, 1, none⟩ (.int .i64 a0)).setCell ⟨b_R, 2, none⟩ (.int .i64 a1)).setCell ⟨b_R, 3, none⟩ (.int .i64 a2)).setCell ⟨b_R, 4, none⟩ (.int .i64 a3)).setCell ⟨b_R, 5, none⟩ (.int .i64 a4)).setCell ⟨b_R, 6, none⟩ (.slice (some ⟨gQ_1, 0, none⟩) zr.length cQ_1)).setCell ⟨b_R, 7, none⟩ (.int .i64 r0)).setCell ⟨b_R, 8, none⟩ (.int .i64 r1)).setCell ⟨b_R, 9, none⟩ (.int .i64 r2)).setCell ⟨b_R, 10, none⟩ (.int .i64 r3)).setCell ⟨b_R, 11, none⟩ (.int .i64 r4)).setCell ⟨b_R, 12, none⟩ (.int .i64 r5)).setCell ⟨b_R, 13, none⟩ (.int .i64 mr)) gQ_1 (zr.length) cQ_1 zr) := Lib.hid (OCEvent.far o_1_Q k_1_R (by decide) only14)
  have HK0 : Hid ((_ : World).cell? ⟨b_R, 0, none⟩ = some (.slice (some ⟨gS_1, 0, none⟩) n cS_1)) := Lib.hid (kk.cell 0)
  have HK1 : Hid ((_ : World).cell? ⟨b_R, 1, none⟩ = some (.int .i64 a0)) := Lib.hid (kk.cell 1)
  have HK2 : Hid ((_ : World).cell? ⟨b_R, 2, none⟩ = some (.int .i64 a1)) := Lib.hid (kk.cell 2)
  have HK3 : Hid ((_ : World).cell? ⟨b_R, 3, none⟩ = some (.int .i64 a2)) := Lib.hid (kk.cell 3)
  have HK4 : Hid ((_ : World).cell? ⟨b_R, 4, none⟩ = some (.int .i64 a3)) := Lib.hid (kk.cell 4)
  have HK5 : Hid ((_ : World).cell? ⟨b_R, 5, none⟩ = some (.int .i64 a4)) := Lib.hid (kk.cell 5)
  have HK6 : Hid ((_ : World).cell? ⟨b_R, 6, none⟩ = some (.slice (some ⟨gQ_1, 0, none⟩) zr.length cQ_1)) := Lib.hid (kk.cell 6)
  have HK7 : Hid ((_ : World).cell? ⟨b_R, 7, none⟩ = some (.int .i64 r0)) := Lib.hid (kk.cell 7)
  have HK8 : Hid ((_ : World).cell? ⟨b_R, 8, none⟩ = some (.int .i64 r1)) := Lib.hid (kk.cell 8)
  have HK9 : Hid ((_ : World).cell? ⟨b_R, 9, none⟩ = some (.int .i64 r2)) := Lib.hid (kk.cell 9)
  have HK10 : Hid ((_ : World).cell? ⟨b_R, 10, none⟩ = some (.int .i64 r3)) := Lib.hid (kk.cell 10)
  have HK11 : Hid ((_ : World).cell? ⟨b_R, 11, none⟩ = some (.int .i64 r4)) := Lib.hid (kk.cell 11)
  have HK12 : Hid ((_ : World).cell? ⟨b_R, 12, none⟩ = some (.int .i64 r5)) := Lib.hid (kk.cell 12)
  have HK13 : Hid ((_ : World).cell? ⟨b_R, 13, none⟩ = some (.int .i64 mr)) := Lib.hid (kk.cell 13)
  clear kk
  clear o_1_S o_1_Q
  go_wp2
  have hk0 := HK0.out
  have hk1 := HK1.out
  have hk2 := HK2.out
  have hk3 := HK3.out
  have hk4 := HK4.out
  have hk5 := HK5.out
  have hk6 := HK6.out
  have hk7 := HK7.out
  have hk8 := HK8.out
  have hk9 := HK9.out
  have hk10 := HK10.out
  have hk11 := HK11.out
  have hk12 := HK12.out
  have hk13 := HK13.out
  exact bodyPost_ret (v := .tuple #[.agg #[.slice (some ⟨gS_1, 0, none⟩) n cS_1, .int .i64 a0, .int .i64 a1, .int .i64 a2, .int .i64 a3, .int .i64 a4, .slice (some ⟨gQ_1, 0, none⟩) zr.length cQ_1, .int .i64 r0, .int .i64 r1, .int .i64 r2, .int .i64 r3, .int .i64 r4, .int .i64 r5, .int .i64 mr], .bool fr]) (by simp [results, Try.results11, go_sem, hk0, hk1, hk2, hk3, hk4, hk5, hk6, hk7, hk8, hk9, hk10, hk11, hk12, hk13]) rfl (rowYV_of rfl rfl rfl rfl rfl rfl rfl rfl rfl OS.out GX_S.out OQ.out GX_Q.out i9.below)
set_option maxRecDepth 100000 in
set_option maxHeartbeats 8000000 in
theorem sNightOver (g n c : Nat) (xs : List Int) (h m d : Nat) (ys : List EventR) (a0 a1 a2 a3 a4 a5 a6 a7 a8 a9 a10 a11 : Int) (w : World) (hn : (n : Int) ≤ 1048576) (hm : (m : Int) ≤ 1048576) (hx : ReadsI w (some ⟨g, 0, none⟩) n xs) (hy : ReadsEvent w (some ⟨h, 0, none⟩) m ys) : Calls Try.prog 9 #[.agg #[.slice (some ⟨g, 0, none⟩) n c, .int .i64 a0, .int .i64 a1, .int .i64 a2, .int .i64 a3, .int .i64 a4, .slice (some ⟨h, 0, none⟩) m d, .int .i64 a5, .int .i64 a6, .int .i64 a7, .int .i64 a8, .int .i64 a9, .int .i64 a10, .int .i64 a11]] w (RowYV n xs (yeL n xs m ys a0 a1 a2 a3 a4 a5 a6 a7 a8 a9 a10 a11 4 0 0).length (yeL n xs m ys a0 a1 a2 a3 a4 a5 a6 a7 a8 a9 a10 a11 4 0 0) a0 a1 a2 a3 a4 (yeS n xs m ys a0 a1 a2 a3 a4 a5 a6 a7 a8 a9 a10 a11 4 0 0).r0 (yeS n xs m ys a0 a1 a2 a3 a4 a5 a6 a7 a8 a9 a10 a11 4 0 0).r1 (yeS n xs m ys a0 a1 a2 a3 a4 a5 a6 a7 a8 a9 a10 a11 4 0 0).r2 (yeS n xs m ys a0 a1 a2 a3 a4 a5 a6 a7 a8 a9 a10 a11 4 0 0).bk (yeS n xs m ys a0 a1 a2 a3 a4 a5 a6 a7 a8 a9 a10 a11 4 0 0).sd (yeS n xs m ys a0 a1 a2 a3 a4 a5 a6 a7 a8 a9 a10 a11 4 0 0).th (yeM n xs m ys a0 a1 a2 a3 a4 a5 a6 a7 a8 a9 a10 a11 4 0 0) (.bool (yeB n xs m ys a0 a1 a2 a3 a4 a5 a6 a7 a8 a9 a10 a11 4 0 0)) w) := by
  have HWI : Hid (∀ W, In w.heap.size w W → Calls Try.prog 38 #[.agg #[.slice (some ⟨g, 0, none⟩) n c, .int .i64 a0, .int .i64 a1, .int .i64 a2, .int .i64 a3, .int .i64 a4, .slice (some ⟨h, 0, none⟩) m d, .int .i64 a5, .int .i64 a6, .int .i64 a7, .int .i64 a8, .int .i64 a9, .int .i64 a10, .int .i64 a11], .agg #[.int .i64 4, .int .i64 0], .int .i64 0] W (RowYV n xs (yeL n xs m ys a0 a1 a2 a3 a4 a5 a6 a7 a8 a9 a10 a11 4 0 0).length (yeL n xs m ys a0 a1 a2 a3 a4 a5 a6 a7 a8 a9 a10 a11 4 0 0) a0 a1 a2 a3 a4 (yeS n xs m ys a0 a1 a2 a3 a4 a5 a6 a7 a8 a9 a10 a11 4 0 0).r0 (yeS n xs m ys a0 a1 a2 a3 a4 a5 a6 a7 a8 a9 a10 a11 4 0 0).r1 (yeS n xs m ys a0 a1 a2 a3 a4 a5 a6 a7 a8 a9 a10 a11 4 0 0).r2 (yeS n xs m ys a0 a1 a2 a3 a4 a5 a6 a7 a8 a9 a10 a11 4 0 0).bk (yeS n xs m ys a0 a1 a2 a3 a4 a5 a6 a7 a8 a9 a10 a11 4 0 0).sd (yeS n xs m ys a0 a1 a2 a3 a4 a5 a6 a7 a8 a9 a10 a11 4 0 0).th (yeM n xs m ys a0 a1 a2 a3 a4 a5 a6 a7 a8 a9 a10 a11 4 0 0) (.bool (yeB n xs m ys a0 a1 a2 a3 a4 a5 a6 a7 a8 a9 a10 a11 4 0 0)) W)) := Lib.hid (fun W hI => s38Enter g n c xs h m d ys a0 a1 a2 a3 a4 a5 a6 a7 a8 a9 a10 a11 4 0 0 W hn hm (by omega) (by omega) (hx.in_ hI) (hy.in_ hI))
  clear hx hy
  generalize yeL n xs m ys a0 a1 a2 a3 a4 a5 a6 a7 a8 a9 a10 a11 4 0 0 = zr at *
  generalize yeS n xs m ys a0 a1 a2 a3 a4 a5 a6 a7 a8 a9 a10 a11 4 0 0 = sr at *
  generalize yeM n xs m ys a0 a1 a2 a3 a4 a5 a6 a7 a8 a9 a10 a11 4 0 0 = mr at *
  generalize yeB n xs m ys a0 a1 a2 a3 a4 a5 a6 a7 a8 a9 a10 a11 4 0 0 = fr at *
  obtain ⟨r0, r1, r2, r3, r4, r5⟩ := sr
  obtain ⟨b_A, hbx_A⟩ : ∃ b, b = w.heap.size := ⟨_, rfl⟩
  have kk_A : Blk ((w.alloc (.cells #[.slice (some ⟨g, 0, none⟩) n c, .int .i64 a0, .int .i64 a1, .int .i64 a2, .int .i64 a3, .int .i64 a4, .slice (some ⟨h, 0, none⟩) m d, .int .i64 a5, .int .i64 a6, .int .i64 a7, .int .i64 a8, .int .i64 a9, .int .i64 a10, .int .i64 a11] 45)).alloc (.cells #[.slice none 0 0, .int .i64 0, .int .i64 0, .int .i64 0, .int .i64 0, .int .i64 0, .slice none 0 0, .int .i64 0, .int .i64 0, .int .i64 0, .int .i64 0, .int .i64 0, .int .i64 0, .int .i64 0] 45)) b_A 45 #[.slice (some ⟨g, 0, none⟩) n c, .int .i64 a0, .int .i64 a1, .int .i64 a2, .int .i64 a3, .int .i64 a4, .slice (some ⟨h, 0, none⟩) m d, .int .i64 a5, .int .i64 a6, .int .i64 a7, .int .i64 a8, .int .i64 a9, .int .i64 a10, .int .i64 a11] := ((Blk.new' (w := w) (t := 45) (cs := #[.slice (some ⟨g, 0, none⟩) n c, .int .i64 a0, .int .i64 a1, .int .i64 a2, .int .i64 a3, .int .i64 a4, .slice (some ⟨h, 0, none⟩) m d, .int .i64 a5, .int .i64 a6, .int .i64 a7, .int .i64 a8, .int .i64 a9, .int .i64 a10, .int .i64 a11]) (g := b_A) (by simp [hbx_A])).alloc (.cells #[.slice none 0 0, .int .i64 0, .int .i64 0, .int .i64 0, .int .i64 0, .int .i64 0, .slice none 0 0, .int .i64 0, .int .i64 0, .int .i64 0, .int .i64 0, .int .i64 0, .int .i64 0, .int .i64 0] 45))
  have hwb_A : w.heap.size ≤ b_A := by omega
  obtain ⟨b_R, hbx_R⟩ : ∃ b, b = w.heap.size + 1 := ⟨_, rfl⟩
  have kk_R : Blk ((w.alloc (.cells #[.slice (some ⟨g, 0, none⟩) n c, .int .i64 a0, .int .i64 a1, .int .i64 a2, .int .i64 a3, .int .i64 a4, .slice (some ⟨h, 0, none⟩) m d, .int .i64 a5, .int .i64 a6, .int .i64 a7, .int .i64 a8, .int .i64 a9, .int .i64 a10, .int .i64 a11] 45)).alloc (.cells #[.slice none 0 0, .int .i64 0, .int .i64 0, .int .i64 0, .int .i64 0, .int .i64 0, .slice none 0 0, .int .i64 0, .int .i64 0, .int .i64 0, .int .i64 0, .int .i64 0, .int .i64 0, .int .i64 0] 45)) b_R 45 #[.slice none 0 0, .int .i64 0, .int .i64 0, .int .i64 0, .int .i64 0, .int .i64 0, .slice none 0 0, .int .i64 0, .int .i64 0, .int .i64 0, .int .i64 0, .int .i64 0, .int .i64 0, .int .i64 0] := (Blk.new' (w := (w.alloc (.cells #[.slice (some ⟨g, 0, none⟩) n c, .int .i64 a0, .int .i64 a1, .int .i64 a2, .int .i64 a3, .int .i64 a4, .slice (some ⟨h, 0, none⟩) m d, .int .i64 a5, .int .i64 a6, .int .i64 a7, .int .i64 a8, .int .i64 a9, .int .i64 a10, .int .i64 a11] 45))) (t := 45) (cs := #[.slice none 0 0, .int .i64 0, .int .i64 0, .int .i64 0, .int .i64 0, .int .i64 0, .slice none 0 0, .int .i64 0, .int .i64 0, .int .i64 0, .int .i64 0, .int .i64 0, .int .i64 0, .int .i64 0]) (g := b_R) (by simp [hbx_R]))
  have hwb_R : w.heap.size ≤ b_R := by omega
  have NB_A_R : Hid (b_A ≠ b_R) := Lib.hid (by omega)
  have hb_0 : Below w.heap.size w ((w.alloc (.cells #[.slice (some ⟨g, 0, none⟩) n c, .int .i64 a0, .int .i64 a1, .int .i64 a2, .int .i64 a3, .int .i64 a4, .slice (some ⟨h, 0, none⟩) m d, .int .i64 a5, .int .i64 a6, .int .i64 a7, .int .i64 a8, .int .i64 a9, .int .i64 a10, .int .i64 a11] 45)).alloc (.cells #[.slice none 0 0, .int .i64 0, .int .i64 0, .int .i64 0, .int .i64 0, .int .i64 0, .slice none 0 0, .int .i64 0, .int .i64 0, .int .i64 0, .int .i64 0, .int .i64 0, .int .i64 0, .int .i64 0] 45)) := by
    have h : In w.heap.size w ((w.alloc (.cells #[.slice (some ⟨g, 0, none⟩) n c, .int .i64 a0, .int .i64 a1, .int .i64 a2, .int .i64 a3, .int .i64 a4, .slice (some ⟨h, 0, none⟩) m d, .int .i64 a5, .int .i64 a6, .int .i64 a7, .int .i64 a8, .int .i64 a9, .int .i64 a10, .int .i64 a11] 45)).alloc (.cells #[.slice none 0 0, .int .i64 0, .int .i64 0, .int .i64 0, .int .i64 0, .int .i64 0, .slice none 0 0, .int .i64 0, .int .i64 0, .int .i64 0, .int .i64 0, .int .i64 0, .int .i64 0, .int .i64 0] 45)) := by (repeat (first | exact In.refl _ | assumption | apply In.alloc | apply In.drewN | apply In.drew | (refine In.step ?_ (by assumption))))
    exact h.below
  have hsz_0 : ((w.alloc (.cells #[.slice (some ⟨g, 0, none⟩) n c, .int .i64 a0, .int .i64 a1, .int .i64 a2, .int .i64 a3, .int .i64 a4, .slice (some ⟨h, 0, none⟩) m d, .int .i64 a5, .int .i64 a6, .int .i64 a7, .int .i64 a8, .int .i64 a9, .int .i64 a10, .int .i64 a11] 45)).alloc (.cells #[.slice none 0 0, .int .i64 0, .int .i64 0, .int .i64 0, .int .i64 0, .int .i64 0, .slice none 0 0, .int .i64 0, .int .i64 0, .int .i64 0, .int .i64 0, .int .i64 0, .int .i64 0, .int .i64 0] 45)).heap.size = b_R + 1 := by simp [hbx_R]
  go_enter Try.func9, Try.ntmps9
  go_wp2_with fail
  rw [← hbx_R]
  clear hbx_R
  rw [← hbx_A]
  clear hbx_A
  generalize ((w.alloc (.cells #[.slice (some ⟨g, 0, none⟩) n c, .int .i64 a0, .int .i64 a1, .int .i64 a2, .int .i64 a3, .int .i64 a4, .slice (some ⟨h, 0, none⟩) m d, .int .i64 a5, .int .i64 a6, .int .i64 a7, .int .i64 a8, .int .i64 a9, .int .i64 a10, .int .i64 a11] 45)).alloc (.cells #[.slice none 0 0, .int .i64 0, .int .i64 0, .int .i64 0, .int .i64 0, .int .i64 0, .slice none 0 0, .int .i64 0, .int .i64 0, .int .i64 0, .int .i64 0, .int .i64 0, .int .i64 0, .int .i64 0] 45)) = w_0 at *
  have i_0 : In w.heap.size w w_0 := In.step (by (repeat (first | exact In.refl _ | assumption | apply In.alloc | apply In.drewN | apply In.drew | (refine In.step ?_ (by assumption))))) hb_0
  have k_0_A : Blk w_0 b_A 45 #[.slice (some ⟨g, 0, none⟩) n c, .int .i64 a0, .int .i64 a1, .int .i64 a2, .int .i64 a3, .int .i64 a4, .slice (some ⟨h, 0, none⟩) m d, .int .i64 a5, .int .i64 a6, .int .i64 a7, .int .i64 a8, .int .i64 a9, .int .i64 a10, .int .i64 a11] := kk_A
  obtain ⟨c_0_A_0, c_0_A_1, c_0_A_2, c_0_A_3, c_0_A_4, c_0_A_5, c_0_A_6, c_0_A_7, c_0_A_8, c_0_A_9, c_0_A_10, c_0_A_11, c_0_A_12, c_0_A_13⟩ := cells14 k_0_A
  have l_0_A := k_0_A.lt
  have k_0_R : Blk w_0 b_R 45 #[.slice none 0 0, .int .i64 0, .int .i64 0, .int .i64 0, .int .i64 0, .int .i64 0, .slice none 0 0, .int .i64 0, .int .i64 0, .int .i64 0, .int .i64 0, .int .i64 0, .int .i64 0, .int .i64 0] := kk_R
  obtain ⟨c_0_R_0, c_0_R_1, c_0_R_2, c_0_R_3, c_0_R_4, c_0_R_5, c_0_R_6, c_0_R_7, c_0_R_8, c_0_R_9, c_0_R_10, c_0_R_11, c_0_R_12, c_0_R_13⟩ := cells14 k_0_R
  have l_0_R := k_0_R.lt
  have z_0_R := k_0_R.frozen
  clear kk_A kk_R
  go_wp2_with fail
  refine (HWI.out _ (by (repeat (first | exact In.refl _ | assumption | apply In.alloc | apply In.drewN | apply In.drew | (refine In.step ?_ (by assumption)))))).mono ?_
  rintro _ w_1 ⟨gS_1, cS_1, gQ_1, cQ_1, rfl, hoS_1, hgS_1, hoQ_1, hgQ_1, hb_1⟩
  have GX_S : Hid (w.heap.size ≤ gS_1) := Lib.hid (by have h1 := hgS_1; (try simp at h1); have h2 := In.size i_0; omega)
  have o_1_S : OwnC w_1 gS_1 (n) cS_1 xs := hoS_1
  clear hoS_1 hgS_1
  have NE_S_Q : Hid (gS_1 ≠ gQ_1) := Lib.hid (ne_OwnC_OCEvent o_1_S hoQ_1)
  have GX_Q : Hid (w.heap.size ≤ gQ_1) := Lib.hid (by have h1 := hgQ_1; (try simp at h1); have h2 := In.size i_0; omega)
  have o_1_Q : OCEvent w_1 gQ_1 (zr.length) cQ_1 zr := hoQ_1
  clear hoQ_1 hgQ_1
  have i_1 : In w.heap.size w w_1 := In.step (by (repeat (first | exact In.refl _ | assumption | apply In.alloc | apply In.drewN | apply In.drew | (refine In.step ?_ (by assumption))))) hb_1
  have k_1_A : Blk w_1 b_A 45 #[.slice (some ⟨g, 0, none⟩) n c, .int .i64 a0, .int .i64 a1, .int .i64 a2, .int .i64 a3, .int .i64 a4, .slice (some ⟨h, 0, none⟩) m d, .int .i64 a5, .int .i64 a6, .int .i64 a7, .int .i64 a8, .int .i64 a9, .int .i64 a10, .int .i64 a11] := Blk.step (by (with_reducible (repeat (first | assumption | exact Blk.new' (by simp) | apply Blk.drewN | apply Blk.drew | apply Blk.alloc | (refine Blk.far ?_ (by (try simp) <;> omega) _))))) hb_1
  obtain ⟨c_1_A_0, c_1_A_1, c_1_A_2, c_1_A_3, c_1_A_4, c_1_A_5, c_1_A_6, c_1_A_7, c_1_A_8, c_1_A_9, c_1_A_10, c_1_A_11, c_1_A_12, c_1_A_13⟩ := cells14 k_1_A
  have l_1_A := k_1_A.lt
  have k_1_R : Blk w_1 b_R 45 #[.slice none 0 0, .int .i64 0, .int .i64 0, .int .i64 0, .int .i64 0, .int .i64 0, .slice none 0 0, .int .i64 0, .int .i64 0, .int .i64 0, .int .i64 0, .int .i64 0, .int .i64 0, .int .i64 0] := Blk.step (by (with_reducible (repeat (first | assumption | exact Blk.new' (by simp) | apply Blk.drewN | apply Blk.drew | apply Blk.alloc | (refine Blk.far ?_ (by (try simp) <;> omega) _))))) hb_1
  obtain ⟨c_1_R_0, c_1_R_1, c_1_R_2, c_1_R_3, c_1_R_4, c_1_R_5, c_1_R_6, c_1_R_7, c_1_R_8, c_1_R_9, c_1_R_10, c_1_R_11, c_1_R_12, c_1_R_13⟩ := cells14 k_1_R
  have l_1_R := k_1_R.lt
  have z_1_R := k_1_R.frozen
  clear i_0 k_0_A c_0_A_0 c_0_A_1 c_0_A_2 c_0_A_3 c_0_A_4 c_0_A_5 c_0_A_6 c_0_A_7 c_0_A_8 c_0_A_9 c_0_A_10 c_0_A_11 c_0_A_12 c_0_A_13 l_0_A k_0_R c_0_R_0 c_0_R_1 c_0_R_2 c_0_R_3 c_0_R_4 c_0_R_5 c_0_R_6 c_0_R_7 c_0_R_8 c_0_R_9 c_0_R_10 c_0_R_11 c_0_R_12 c_0_R_13 l_0_R z_0_R hb_0
  simp only []
  iterate 22 go_step
  obtain ⟨b_N, hbx_N⟩ : ∃ b, b = w_1.heap.size := ⟨_, rfl⟩
  rw [← hbx_N]
  have hwb_N : w.heap.size ≤ b_N := by have h := In.size i_1; omega
  have hnb_N : w_1.heap.size ≤ b_N := by omega
  have NB_A_N : Hid (b_A ≠ b_N) := Lib.hid (by have h := k_1_A.lt; omega)
  have NB_R_N : Hid (b_R ≠ b_N) := Lib.hid (by have h := k_1_R.lt; omega)
  have hb_2 : Below w_1.heap.size w_1 (w_1.alloc (.cells #[.slice (some ⟨gS_1, 0, none⟩) n cS_1, .int .i64 a0, .int .i64 a1, .int .i64 a2, .int .i64 a3, .int .i64 a4, .slice (some ⟨gQ_1, 0, none⟩) zr.length cQ_1, .int .i64 r0, .int .i64 r1, .int .i64 r2, .int .i64 r3, .int .i64 r4, .int .i64 r5, .int .i64 mr] 45)) := (Below.refl _ _).alloc (Nat.le_refl _) _
  have kk_2 : Blk (w_1.alloc (.cells #[.slice (some ⟨gS_1, 0, none⟩) n cS_1, .int .i64 a0, .int .i64 a1, .int .i64 a2, .int .i64 a3, .int .i64 a4, .slice (some ⟨gQ_1, 0, none⟩) zr.length cQ_1, .int .i64 r0, .int .i64 r1, .int .i64 r2, .int .i64 r3, .int .i64 r4, .int .i64 r5, .int .i64 mr] 45)) b_N 45 #[.slice (some ⟨gS_1, 0, none⟩) n cS_1, .int .i64 a0, .int .i64 a1, .int .i64 a2, .int .i64 a3, .int .i64 a4, .slice (some ⟨gQ_1, 0, none⟩) zr.length cQ_1, .int .i64 r0, .int .i64 r1, .int .i64 r2, .int .i64 r3, .int .i64 r4, .int .i64 r5, .int .i64 mr] := Blk.new' hbx_N
  clear hbx_N
  generalize (w_1.alloc (.cells #[.slice (some ⟨gS_1, 0, none⟩) n cS_1, .int .i64 a0, .int .i64 a1, .int .i64 a2, .int .i64 a3, .int .i64 a4, .slice (some ⟨gQ_1, 0, none⟩) zr.length cQ_1, .int .i64 r0, .int .i64 r1, .int .i64 r2, .int .i64 r3, .int .i64 r4, .int .i64 r5, .int .i64 mr] 45)) = w_2 at *
  have i_2 : In w.heap.size w w_2 := In.step (by (repeat (first | exact In.refl _ | assumption | apply In.alloc | apply In.drewN | apply In.drew | (refine In.step ?_ (by assumption))))) hb_2
  have k_2_A : Blk w_2 b_A 45 #[.slice (some ⟨g, 0, none⟩) n c, .int .i64 a0, .int .i64 a1, .int .i64 a2, .int .i64 a3, .int .i64 a4, .slice (some ⟨h, 0, none⟩) m d, .int .i64 a5, .int .i64 a6, .int .i64 a7, .int .i64 a8, .int .i64 a9, .int .i64 a10, .int .i64 a11] := Blk.step (by (with_reducible (repeat (first | assumption | exact Blk.new' (by simp) | apply Blk.drewN | apply Blk.drew | apply Blk.alloc | (refine Blk.far ?_ (by (try simp) <;> omega) _))))) hb_2
  obtain ⟨c_2_A_0, c_2_A_1, c_2_A_2, c_2_A_3, c_2_A_4, c_2_A_5, c_2_A_6, c_2_A_7, c_2_A_8, c_2_A_9, c_2_A_10, c_2_A_11, c_2_A_12, c_2_A_13⟩ := cells14 k_2_A
  have l_2_A := k_2_A.lt
  have k_2_R : Blk w_2 b_R 45 #[.slice none 0 0, .int .i64 0, .int .i64 0, .int .i64 0, .int .i64 0, .int .i64 0, .slice none 0 0, .int .i64 0, .int .i64 0, .int .i64 0, .int .i64 0, .int .i64 0, .int .i64 0, .int .i64 0] := Blk.step (by (with_reducible (repeat (first | assumption | exact Blk.new' (by simp) | apply Blk.drewN | apply Blk.drew | apply Blk.alloc | (refine Blk.far ?_ (by (try simp) <;> omega) _))))) hb_2
  obtain ⟨c_2_R_0, c_2_R_1, c_2_R_2, c_2_R_3, c_2_R_4, c_2_R_5, c_2_R_6, c_2_R_7, c_2_R_8, c_2_R_9, c_2_R_10, c_2_R_11, c_2_R_12, c_2_R_13⟩ := cells14 k_2_R
  have l_2_R := k_2_R.lt
  have z_2_R := k_2_R.frozen
  have k_2_N : Blk w_2 b_N 45 #[.slice (some ⟨gS_1, 0, none⟩) n cS_1, .int .i64 a0, .int .i64 a1, .int .i64 a2, .int .i64 a3, .int .i64 a4, .slice (some ⟨gQ_1, 0, none⟩) zr.length cQ_1, .int .i64 r0, .int .i64 r1, .int .i64 r2, .int .i64 r3, .int .i64 r4, .int .i64 r5, .int .i64 mr] := kk_2
  obtain ⟨c_2_N_0, c_2_N_1, c_2_N_2, c_2_N_3, c_2_N_4, c_2_N_5, c_2_N_6, c_2_N_7, c_2_N_8, c_2_N_9, c_2_N_10, c_2_N_11, c_2_N_12, c_2_N_13⟩ := cells14 k_2_N
  have l_2_N := k_2_N.lt
  have o_2_S : OwnC w_2 gS_1 (n) cS_1 xs := OwnC.step (by with_reducible (repeat (first | assumption | apply OwnC.drewN | apply OwnC.drew | apply OwnC.alloc))) hb_2
  have o_2_Q : OCEvent w_2 gQ_1 (zr.length) cQ_1 zr := OCEvent.step (by with_reducible (repeat (first | assumption | apply OCEvent.drewN | apply OCEvent.drew | apply OCEvent.alloc))) hb_2
  clear i_1 k_1_A c_1_A_0 c_1_A_1 c_1_A_2 c_1_A_3 c_1_A_4 c_1_A_5 c_1_A_6 c_1_A_7 c_1_A_8 c_1_A_9 c_1_A_10 c_1_A_11 c_1_A_12 c_1_A_13 l_1_A k_1_R c_1_R_0 c_1_R_1 c_1_R_2 c_1_R_3 c_1_R_4 c_1_R_5 c_1_R_6 c_1_R_7 c_1_R_8 c_1_R_9 c_1_R_10 c_1_R_11 c_1_R_12 c_1_R_13 l_1_R z_1_R o_1_S o_1_Q hb_1
  clear kk_2
  have hn1_R_A : b_A ≠ b_R := by first | exact NB_A_R.out | exact NB_R_A.out.symm
  have hn2_R_A : b_R ≠ b_A := hn1_R_A.symm
  have hn1_R_N : b_N ≠ b_R := by first | exact NB_N_R.out | exact NB_R_N.out.symm
  have hn2_R_N : b_R ≠ b_N := hn1_R_N.symm
  have kk : Blk ((((((((((((((w_2.setCell ⟨b_R, 0, none⟩ (.slice (some ⟨gS_1, 0, none⟩) n cS_1)).setCell ⟨b_R, 1, none⟩ (.int .i64 a0)).setCell ⟨b_R, 2, none⟩ (.int .i64 a1)).setCell ⟨b_R, 3, none⟩ (.int .i64 a2)).setCell ⟨b_R, 4, none⟩ (.int .i64 a3)).setCell ⟨b_R, 5, none⟩ (.int .i64 a4)).setCell ⟨b_R, 6, none⟩ (.slice (some ⟨gQ_1, 0, none⟩) zr.length cQ_1)).setCell ⟨b_R, 7, none⟩ (.int .i64 r0)).setCell ⟨b_R, 8, none⟩ (.int .i64 r1)).setCell ⟨b_R, 9, none⟩ (.int .i64 r2)).setCell ⟨b_R, 10, none⟩ (.int .i64 r3)).setCell ⟨b_R, 11, none⟩ (.int .i64 r4)).setCell ⟨b_R, 12, none⟩ (.int .i64 r5)).setCell ⟨b_R, 13, none⟩ (.int .i64 mr)) b_R 45 #[.slice (some ⟨gS_1, 0, none⟩) n cS_1, .int .i64 a0, .int .i64 a1, .int .i64 a2, .int .i64 a3, .int .i64 a4, .slice (some ⟨gQ_1, 0, none⟩) zr.length cQ_1, .int .i64 r0, .int .i64 r1, .int .i64 r2, .int .i64 r3, .int .i64 r4, .int .i64 r5, .int .i64 mr] := blks14 k_2_R
  have i9 : In w.heap.size w ((((((((((((((w_2.setCell ⟨b_R, 0, none⟩ (.slice (some ⟨gS_1, 0, none⟩) n cS_1)).setCell ⟨b_R, 1, none⟩ (.int .i64 a0)).setCell ⟨b_R, 2, none⟩ (.int .i64 a1)).setCell ⟨b_R, 3, none⟩ (.int .i64 a2)).setCell ⟨b_R, 4, none⟩ (.int .i64 a3)).setCell ⟨b_R, 5, none⟩ (.int .i64 a4)).setCell ⟨b_R, 6, none⟩ (.slice (some ⟨gQ_1, 0, none⟩) zr.length cQ_1)).setCell ⟨b_R, 7, none⟩ (.int .i64 r0)).setCell ⟨b_R, 8, none⟩ (.int .i64 r1)).setCell ⟨b_R, 9, none⟩ (.int .i64 r2)).setCell ⟨b_R, 10, none⟩ (.int .i64 r3)).setCell ⟨b_R, 11, none⟩ (.int .i64 r4)).setCell ⟨b_R, 12, none⟩ (.int .i64 r5)).setCell ⟨b_R, 13, none⟩ (.int .i64 mr)) := ins14 i_2 hwb_R
  have OS : Hid (OwnC ((((((((((((((w_2.setCell ⟨b_R, 0, none⟩ (.slice (some ⟨gS_1, 0, none⟩) n cS_1)).setCell ⟨b_R, 1, none⟩ (.int .i64 a0)).setCell ⟨b_R, 2, none⟩ (.int .i64 a1)).setCell ⟨b_R, 3, none⟩ (.int .i64 a2)).setCell ⟨b_R, 4, none⟩ (.int .i64 a3)).setCell ⟨b_R, 5, none⟩ (.int .i64 a4)).setCell ⟨b_R, 6, none⟩ (.slice (some ⟨gQ_1, 0, none⟩) zr.length cQ_1)).setCell ⟨b_R, 7, none⟩ (.int .i64 r0)).setCell ⟨b_R, 8, none⟩ (.int .i64 r1)).setCell ⟨b_R, 9, none⟩ (.int .i64 r2)).setCell ⟨b_R, 10, none⟩ (.int .i64 r3)).setCell ⟨b_R, 11, none⟩ (.int .i64 r4)).setCell ⟨b_R, 12, none⟩ (.int .i64 r5)).setCell ⟨b_R, 13, none⟩ (.int .i64 mr)) gS_1 (n) cS_1 xs) := Lib.hid (OwnC.far o_2_S k_2_R (by decide) only14)
  have OQ : Hid (OCEvent ((((((((((((((w_2.setCell ⟨b_R, 0, none⟩ (.slice (some ⟨gS_1, 0, none⟩) n cS_1)).setCell ⟨b_R, 1, none⟩ (.int .i64 a0)).setCell ⟨b_R, 2, none⟩ (.int .i64 a1)).setCell ⟨b_R, 3, none⟩ (.int .i64 a2)).setCell ⟨b_R, 4, none⟩ (.int .i64 a3)).setCell ⟨b_R, 5, none⟩ (.int .i64 a4)).setCell ⟨b_R, 6, none⟩ (.slice (some ⟨gQ_1, 0, none⟩) zr.length cQ_1)).setCell ⟨b_R, 7, none⟩ (.int .i64 r0)).setCell ⟨b_R, 8, none⟩ (.int .i64 r1)).setCell ⟨b_R, 9, none⟩ (.int .i64 r2)).setCell ⟨b_R, 10, none⟩ (.int .i64 r3)).setCell ⟨b_R, 11, none⟩ (.int .i64 r4)).setCell ⟨b_R, 12, none⟩ (.int .i64 r5)).setCell ⟨b_R, 13, none⟩ (.int .i64 mr)) gQ_1 (zr.length) cQ_1 zr) := Lib.hid (OCEvent.far o_2_Q k_2_R (by decide) only14)
  have HK0 : Hid ((_ : World).cell? ⟨b_R, 0, none⟩ = some (.slice (some ⟨gS_1, 0, none⟩) n cS_1)) := Lib.hid (kk.cell 0)
  have HK1 : Hid ((_ : World).cell? ⟨b_R, 1, none⟩ = some (.int .i64 a0)) := Lib.hid (kk.cell 1)
  have HK2 : Hid ((_ : World).cell? ⟨b_R, 2, none⟩ = some (.int .i64 a1)) := Lib.hid (kk.cell 2)
  have HK3 : Hid ((_ : World).cell? ⟨b_R, 3, none⟩ = some (.int .i64 a2)) := Lib.hid (kk.cell 3)
  have HK4 : Hid ((_ : World).cell? ⟨b_R, 4, none⟩ = some (.int .i64 a3)) := Lib.hid (kk.cell 4)
  have HK5 : Hid ((_ : World).cell? ⟨b_R, 5, none⟩ = some (.int .i64 a4)) := Lib.hid (kk.cell 5)
  have HK6 : Hid ((_ : World).cell? ⟨b_R, 6, none⟩ = some (.slice (some ⟨gQ_1, 0, none⟩) zr.length cQ_1)) := Lib.hid (kk.cell 6)
  have HK7 : Hid ((_ : World).cell? ⟨b_R, 7, none⟩ = some (.int .i64 r0)) := Lib.hid (kk.cell 7)
  have HK8 : Hid ((_ : World).cell? ⟨b_R, 8, none⟩ = some (.int .i64 r1)) := Lib.hid (kk.cell 8)
  have HK9 : Hid ((_ : World).cell? ⟨b_R, 9, none⟩ = some (.int .i64 r2)) := Lib.hid (kk.cell 9)
  have HK10 : Hid ((_ : World).cell? ⟨b_R, 10, none⟩ = some (.int .i64 r3)) := Lib.hid (kk.cell 10)
  have HK11 : Hid ((_ : World).cell? ⟨b_R, 11, none⟩ = some (.int .i64 r4)) := Lib.hid (kk.cell 11)
  have HK12 : Hid ((_ : World).cell? ⟨b_R, 12, none⟩ = some (.int .i64 r5)) := Lib.hid (kk.cell 12)
  have HK13 : Hid ((_ : World).cell? ⟨b_R, 13, none⟩ = some (.int .i64 mr)) := Lib.hid (kk.cell 13)
  clear kk
  clear o_2_S o_2_Q
  go_wp2
  have hk0 := HK0.out
  have hk1 := HK1.out
  have hk2 := HK2.out
  have hk3 := HK3.out
  have hk4 := HK4.out
  have hk5 := HK5.out
  have hk6 := HK6.out
  have hk7 := HK7.out
  have hk8 := HK8.out
  have hk9 := HK9.out
  have hk10 := HK10.out
  have hk11 := HK11.out
  have hk12 := HK12.out
  have hk13 := HK13.out
  exact bodyPost_ret (v := .tuple #[.agg #[.slice (some ⟨gS_1, 0, none⟩) n cS_1, .int .i64 a0, .int .i64 a1, .int .i64 a2, .int .i64 a3, .int .i64 a4, .slice (some ⟨gQ_1, 0, none⟩) zr.length cQ_1, .int .i64 r0, .int .i64 r1, .int .i64 r2, .int .i64 r3, .int .i64 r4, .int .i64 r5, .int .i64 mr], .bool fr]) (by simp [results, Try.results9, go_sem, hk0, hk1, hk2, hk3, hk4, hk5, hk6, hk7, hk8, hk9, hk10, hk11, hk12, hk13]) rfl (rowYV_of rfl rfl rfl rfl rfl rfl rfl rfl rfl OS.out GX_S.out OQ.out GX_Q.out i9.below)
end Go.Proofs.Ytmcfghklfkmfkaa
