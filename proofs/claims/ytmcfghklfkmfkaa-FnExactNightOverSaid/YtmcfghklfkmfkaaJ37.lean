/- Chapter 37: copies of books, Strike. -/
import Derived.Test.YtmcfghklfkmfkaaI37
import Derived.Test.YtmcfghklfkmfkaaInv
namespace Go.Proofs.Ytmcfghklfkmfkaa
open Go.ChangeShapes Go.WideShapes Go.ChangeAt Go.RowKit
set_option linter.unusedVariables false
set_option linter.unusedSimpArgs false
set_option maxHeartbeats 2000000

/-- a book of the call's own -/
def RowBk (n : Nat) (xs : List EventR) (s : BkS) (w : World) (e : Ending) (w' : World) : Prop :=
  ∃ g c, e = .returned (.agg (bkC (some ⟨g, 0, none⟩) n c s)) ∧ OCEvent w' g n c xs ∧ w.heap.size ≤ g ∧ Below w.heap.size w w'
def RowBkV (n : Nat) (xs : List EventR) (s : BkS) (v : Value) (w : World) (e : Ending) (w' : World) : Prop :=
  ∃ g c, e = .returned (.tuple #[.agg (bkC (some ⟨g, 0, none⟩) n c s), v]) ∧ OCEvent w' g n c xs ∧ w.heap.size ≤ g ∧ Below w.heap.size w w'
theorem s37Copy (ga n ca : Nat) (xs : List EventR) (a b c d e f : Int) (w : World) (hn : (n : Int) ≤ 1048577) (hx : ReadsEvent w (some ⟨ga, 0, none⟩) n xs) : Calls Try.prog 79 #[.agg #[.slice (some ⟨ga, 0, none⟩) n ca, .int .i64 a, .int .i64 b, .int .i64 c, .int .i64 d, .int .i64 e, .int .i64 f]] w (RowBk n xs ⟨a, b, c, d, e, f⟩ w) := by
  have HX := Lib.hid hx
  clear hx
  obtain ⟨b_A, hbx_A⟩ : ∃ b, b = w.heap.size := ⟨_, rfl⟩
  have kk_A : Blk ((w.alloc (.cells #[.slice (some ⟨ga, 0, none⟩) n ca, .int .i64 a, .int .i64 b, .int .i64 c, .int .i64 d, .int .i64 e, .int .i64 f] 43)).alloc (.cells #[.slice none 0 0, .int .i64 0, .int .i64 0, .int .i64 0, .int .i64 0, .int .i64 0, .int .i64 0] 43)) b_A 43 #[.slice (some ⟨ga, 0, none⟩) n ca, .int .i64 a, .int .i64 b, .int .i64 c, .int .i64 d, .int .i64 e, .int .i64 f] := ((Blk.new' (w := w) (t := 43) (cs := #[.slice (some ⟨ga, 0, none⟩) n ca, .int .i64 a, .int .i64 b, .int .i64 c, .int .i64 d, .int .i64 e, .int .i64 f]) (g := b_A) (by simp [hbx_A])).alloc (.cells #[.slice none 0 0, .int .i64 0, .int .i64 0, .int .i64 0, .int .i64 0, .int .i64 0, .int .i64 0] 43))
  have hwb_A : w.heap.size ≤ b_A := by omega
  obtain ⟨b_R, hbx_R⟩ : ∃ b, b = w.heap.size + 1 := ⟨_, rfl⟩
  have kk_R : Blk ((w.alloc (.cells #[.slice (some ⟨ga, 0, none⟩) n ca, .int .i64 a, .int .i64 b, .int .i64 c, .int .i64 d, .int .i64 e, .int .i64 f] 43)).alloc (.cells #[.slice none 0 0, .int .i64 0, .int .i64 0, .int .i64 0, .int .i64 0, .int .i64 0, .int .i64 0] 43)) b_R 43 #[.slice none 0 0, .int .i64 0, .int .i64 0, .int .i64 0, .int .i64 0, .int .i64 0, .int .i64 0] := (Blk.new' (w := (w.alloc (.cells #[.slice (some ⟨ga, 0, none⟩) n ca, .int .i64 a, .int .i64 b, .int .i64 c, .int .i64 d, .int .i64 e, .int .i64 f] 43))) (t := 43) (cs := #[.slice none 0 0, .int .i64 0, .int .i64 0, .int .i64 0, .int .i64 0, .int .i64 0, .int .i64 0]) (g := b_R) (by simp [hbx_R]))
  have hwb_R : w.heap.size ≤ b_R := by omega
  have NB_A_R : Hid (b_A ≠ b_R) := Lib.hid (by omega)
  have hb_0 : Below w.heap.size w ((w.alloc (.cells #[.slice (some ⟨ga, 0, none⟩) n ca, .int .i64 a, .int .i64 b, .int .i64 c, .int .i64 d, .int .i64 e, .int .i64 f] 43)).alloc (.cells #[.slice none 0 0, .int .i64 0, .int .i64 0, .int .i64 0, .int .i64 0, .int .i64 0, .int .i64 0] 43)) := by
    have h : In w.heap.size w ((w.alloc (.cells #[.slice (some ⟨ga, 0, none⟩) n ca, .int .i64 a, .int .i64 b, .int .i64 c, .int .i64 d, .int .i64 e, .int .i64 f] 43)).alloc (.cells #[.slice none 0 0, .int .i64 0, .int .i64 0, .int .i64 0, .int .i64 0, .int .i64 0, .int .i64 0] 43)) := by (repeat (first | exact In.refl _ | assumption | apply In.alloc | apply In.drewN | apply In.drew | (refine In.step ?_ (by assumption))))
    exact h.below
  have hsz_0 : ((w.alloc (.cells #[.slice (some ⟨ga, 0, none⟩) n ca, .int .i64 a, .int .i64 b, .int .i64 c, .int .i64 d, .int .i64 e, .int .i64 f] 43)).alloc (.cells #[.slice none 0 0, .int .i64 0, .int .i64 0, .int .i64 0, .int .i64 0, .int .i64 0, .int .i64 0] 43)).heap.size = b_R + 1 := by simp [hbx_R]
  go_enter Try.func79, Try.ntmps79
  go_wp2_with (at_builtin; refine append_stop rfl ?_)
  rw [← hbx_R]
  clear hbx_R
  rw [← hbx_A]
  clear hbx_A
  generalize ((w.alloc (.cells #[.slice (some ⟨ga, 0, none⟩) n ca, .int .i64 a, .int .i64 b, .int .i64 c, .int .i64 d, .int .i64 e, .int .i64 f] 43)).alloc (.cells #[.slice none 0 0, .int .i64 0, .int .i64 0, .int .i64 0, .int .i64 0, .int .i64 0, .int .i64 0] 43)) = w_0 at *
  have i_0 : In w.heap.size w w_0 := In.step (by (repeat (first | exact In.refl _ | assumption | apply In.alloc | apply In.drewN | apply In.drew | (refine In.step ?_ (by assumption))))) hb_0
  have k_0_A : Blk w_0 b_A 43 #[.slice (some ⟨ga, 0, none⟩) n ca, .int .i64 a, .int .i64 b, .int .i64 c, .int .i64 d, .int .i64 e, .int .i64 f] := kk_A
  obtain ⟨c_0_A_0, c_0_A_1, c_0_A_2, c_0_A_3, c_0_A_4, c_0_A_5, c_0_A_6⟩ := cells7 k_0_A
  have l_0_A := k_0_A.lt
  have z_0_A := k_0_A.frozen
  have k_0_R : Blk w_0 b_R 43 #[.slice none 0 0, .int .i64 0, .int .i64 0, .int .i64 0, .int .i64 0, .int .i64 0, .int .i64 0] := kk_R
  obtain ⟨c_0_R_0, c_0_R_1, c_0_R_2, c_0_R_3, c_0_R_4, c_0_R_5, c_0_R_6⟩ := cells7 k_0_R
  have l_0_R := k_0_R.lt
  have z_0_R := k_0_R.frozen
  clear kk_A kk_R
  have HX0 := HX.out.in_ i_0
  obtain ⟨ti, hti, htz, hts, htb⟩ := infoEvent_p
  have hown0 := own_emptyEvent w_0
  rw [hsz_0] at hown0
  have hnews := OCEvent.news (HX0.in_ (show In w_0.heap.size w_0 (w_0.alloc (.cells #[] 78)) from In.alloc (In.refl _) _))
  have HLn := Lib.hid (show (flEvent xs).length = n * 2 by rw [flEvent_len, HX0.1])
  have HOn := Lib.hid (flEvent_one xs)
  have HBy : Hid ((0 + n) * ti.bytes ≤ 140737488355328) := Lib.hid (by have h9 : (0 + n) * ti.bytes ≤ (0 + n) * 64 := Nat.mul_le_mul_left _ htb; have h8 := hn; omega)
  have HMx : Hid (0 + n ≤ maxLen) := Lib.hid (by have h8 := hn; unfold maxLen; omega)
  refine Stop.go (wpList_append_own _ rfl (.tmp 3) (.tmp 5) 40 rfl (b_R + 1) 78 ti (.agg #[.int .i64 0, .int .i64 0]) 2 ti.bytes Try.underlying40 hti htz hts rfl rfl (by decide) (.slice (some ⟨(b_R + 1), 0, none⟩) 0 0) 0 [] rfl hown0 ⟨ga, 0, none⟩ n ca (flEvent xs) rfl HLn.out hnews HOn.out HMx.out HBy.out (by simp [hsz_0]) ?_)
  intro v9 w_1 hown9 hgr9 hif9
  obtain ⟨gE_1, cE_1, rfl, hgE_1, hoE_1⟩ := OCEvent.of (xs := xs) (by simpa using hown9) (by first | exact hif9 | (intro e9; exact absurd (hif9.1 e9).1 (by simp)))
  rw [← hsz_0] at hgE_1
  have hb_1 : Below w_0.heap.size w_0 w_1 := ((Below.refl _ w_0).alloc (Nat.le_refl _) _).grown hgr9 (by simp) (fun j hj => by simp [Value.ownBlock] at hj; omega)
  clear hown9 hgr9 hif9 hown0 hnews HLn HOn HBy HMx hti htz hts htb
  have GX_E : Hid (w.heap.size ≤ gE_1) := Lib.hid (by have h1 := hgE_1; have h2 := In.size i_0; omega)
  have o_1_E : OCEvent w_1 gE_1 (n) cE_1 xs := hoE_1
  clear hoE_1 hgE_1
  have i_1 : In w.heap.size w w_1 := In.step (by (repeat (first | exact In.refl _ | assumption | apply In.alloc | apply In.drewN | apply In.drew | (refine In.step ?_ (by assumption))))) hb_1
  have k_1_A : Blk w_1 b_A 43 #[.slice (some ⟨ga, 0, none⟩) n ca, .int .i64 a, .int .i64 b, .int .i64 c, .int .i64 d, .int .i64 e, .int .i64 f] := Blk.step (by (with_reducible (repeat (first | assumption | exact Blk.new' (by simp) | apply Blk.drewN | apply Blk.drew | apply Blk.alloc | (refine Blk.far ?_ (by (try simp) <;> omega) _))))) hb_1
  obtain ⟨c_1_A_0, c_1_A_1, c_1_A_2, c_1_A_3, c_1_A_4, c_1_A_5, c_1_A_6⟩ := cells7 k_1_A
  have l_1_A := k_1_A.lt
  have z_1_A := k_1_A.frozen
  have k_1_R : Blk w_1 b_R 43 #[.slice none 0 0, .int .i64 0, .int .i64 0, .int .i64 0, .int .i64 0, .int .i64 0, .int .i64 0] := Blk.step (by (with_reducible (repeat (first | assumption | exact Blk.new' (by simp) | apply Blk.drewN | apply Blk.drew | apply Blk.alloc | (refine Blk.far ?_ (by (try simp) <;> omega) _))))) hb_1
  obtain ⟨c_1_R_0, c_1_R_1, c_1_R_2, c_1_R_3, c_1_R_4, c_1_R_5, c_1_R_6⟩ := cells7 k_1_R
  have l_1_R := k_1_R.lt
  have z_1_R := k_1_R.frozen
  clear i_0 k_0_A c_0_A_0 c_0_A_1 c_0_A_2 c_0_A_3 c_0_A_4 c_0_A_5 c_0_A_6 l_0_A z_0_A k_0_R c_0_R_0 c_0_R_1 c_0_R_2 c_0_R_3 c_0_R_4 c_0_R_5 c_0_R_6 l_0_R z_0_R hb_0
  clear HX0
  have hn1_A_R : b_R ≠ b_A := by first | exact NB_R_A.out | exact NB_A_R.out.symm
  have hn2_A_R : b_A ≠ b_R := hn1_A_R.symm
  have hn1_R_A : b_A ≠ b_R := by first | exact NB_A_R.out | exact NB_R_A.out.symm
  have hn2_R_A : b_R ≠ b_A := hn1_R_A.symm
  have kk : Blk ((((((((w_1.setCell ⟨b_A, 0, none⟩ (.slice (some ⟨gE_1, 0, none⟩) n cE_1)).setCell ⟨b_R, 0, none⟩ (.slice (some ⟨gE_1, 0, none⟩) n cE_1)).setCell ⟨b_R, 1, none⟩ (.int .i64 a)).setCell ⟨b_R, 2, none⟩ (.int .i64 b)).setCell ⟨b_R, 3, none⟩ (.int .i64 c)).setCell ⟨b_R, 4, none⟩ (.int .i64 d)).setCell ⟨b_R, 5, none⟩ (.int .i64 e)).setCell ⟨b_R, 6, none⟩ (.int .i64 f)) b_R 43 #[.slice (some ⟨gE_1, 0, none⟩) n cE_1, .int .i64 a, .int .i64 b, .int .i64 c, .int .i64 d, .int .i64 e, .int .i64 f] := by
    have h := ((((((((Blk.far k_1_R (p := ⟨b_A, 0, none⟩) (by first | exact NB_R_A.out | exact NB_A_R.out.symm) (.slice (some ⟨gE_1, 0, none⟩) n cE_1)).set_ 0 (.slice (some ⟨gE_1, 0, none⟩) n cE_1)).set_ 1 (.int .i64 a)).set_ 2 (.int .i64 b)).set_ 3 (.int .i64 c)).set_ 4 (.int .i64 d)).set_ 5 (.int .i64 e)).set_ 6 (.int .i64 f))
    simpa using h
  have i9 : In w.heap.size w ((((((((w_1.setCell ⟨b_A, 0, none⟩ (.slice (some ⟨gE_1, 0, none⟩) n cE_1)).setCell ⟨b_R, 0, none⟩ (.slice (some ⟨gE_1, 0, none⟩) n cE_1)).setCell ⟨b_R, 1, none⟩ (.int .i64 a)).setCell ⟨b_R, 2, none⟩ (.int .i64 b)).setCell ⟨b_R, 3, none⟩ (.int .i64 c)).setCell ⟨b_R, 4, none⟩ (.int .i64 d)).setCell ⟨b_R, 5, none⟩ (.int .i64 e)).setCell ⟨b_R, 6, none⟩ (.int .i64 f)) := (In.set_ (In.set_ (In.set_ (In.set_ (In.set_ (In.set_ (In.set_ (In.set_ i_1 (p := ⟨b_A, 0, none⟩) hwb_A (.slice (some ⟨gE_1, 0, none⟩) n cE_1)) (p := ⟨b_R, 0, none⟩) hwb_R (.slice (some ⟨gE_1, 0, none⟩) n cE_1)) (p := ⟨b_R, 1, none⟩) hwb_R (.int .i64 a)) (p := ⟨b_R, 2, none⟩) hwb_R (.int .i64 b)) (p := ⟨b_R, 3, none⟩) hwb_R (.int .i64 c)) (p := ⟨b_R, 4, none⟩) hwb_R (.int .i64 d)) (p := ⟨b_R, 5, none⟩) hwb_R (.int .i64 e)) (p := ⟨b_R, 6, none⟩) hwb_R (.int .i64 f))
  have OE : Hid (OCEvent ((((((((w_1.setCell ⟨b_A, 0, none⟩ (.slice (some ⟨gE_1, 0, none⟩) n cE_1)).setCell ⟨b_R, 0, none⟩ (.slice (some ⟨gE_1, 0, none⟩) n cE_1)).setCell ⟨b_R, 1, none⟩ (.int .i64 a)).setCell ⟨b_R, 2, none⟩ (.int .i64 b)).setCell ⟨b_R, 3, none⟩ (.int .i64 c)).setCell ⟨b_R, 4, none⟩ (.int .i64 d)).setCell ⟨b_R, 5, none⟩ (.int .i64 e)).setCell ⟨b_R, 6, none⟩ (.int .i64 f)) gE_1 (n) cE_1 xs) := Lib.hid (OCEvent.far (OCEvent.far o_1_E k_1_A (by decide) only1) (Blk.grown k_1_R only1 (fun h => (show b_R ≠ b_A by first | exact NB_R_A.out | exact NB_A_R.out.symm) (Option.some.inj h))) (by decide) only7)
  have HK0 : Hid ((_ : World).cell? ⟨b_R, 0, none⟩ = some (.slice (some ⟨gE_1, 0, none⟩) n cE_1)) := Lib.hid (kk.cell 0)
  have HK1 : Hid ((_ : World).cell? ⟨b_R, 1, none⟩ = some (.int .i64 a)) := Lib.hid (kk.cell 1)
  have HK2 : Hid ((_ : World).cell? ⟨b_R, 2, none⟩ = some (.int .i64 b)) := Lib.hid (kk.cell 2)
  have HK3 : Hid ((_ : World).cell? ⟨b_R, 3, none⟩ = some (.int .i64 c)) := Lib.hid (kk.cell 3)
  have HK4 : Hid ((_ : World).cell? ⟨b_R, 4, none⟩ = some (.int .i64 d)) := Lib.hid (kk.cell 4)
  have HK5 : Hid ((_ : World).cell? ⟨b_R, 5, none⟩ = some (.int .i64 e)) := Lib.hid (kk.cell 5)
  have HK6 : Hid ((_ : World).cell? ⟨b_R, 6, none⟩ = some (.int .i64 f)) := Lib.hid (kk.cell 6)
  clear kk
  clear o_1_E
  go_wp2
  have hk0 := HK0.out
  have hk1 := HK1.out
  have hk2 := HK2.out
  have hk3 := HK3.out
  have hk4 := HK4.out
  have hk5 := HK5.out
  have hk6 := HK6.out
  exact bodyPost_ret (v := .agg #[.slice (some ⟨gE_1, 0, none⟩) n cE_1, .int .i64 a, .int .i64 b, .int .i64 c, .int .i64 d, .int .i64 e, .int .i64 f]) (by simp [results, Try.results79, go_sem, hk0, hk1, hk2, hk3, hk4, hk5, hk6]) rfl (⟨gE_1, cE_1, rfl, OE.out, GX_E.out, i9.below⟩)
theorem i37Copy (ga n ca : Nat) (xs : List EventR) (a b c d e f : Int) (w : World) (hn : (n : Int) ≤ 1048577) (hx : ReadsEvent w (some ⟨ga, 0, none⟩) n xs) : Calls Try.prog 71 #[.agg #[.slice (some ⟨ga, 0, none⟩) n ca, .int .i64 a, .int .i64 b, .int .i64 c, .int .i64 d, .int .i64 e, .int .i64 f]] w (RowBk n xs ⟨a, b, c, d, e, f⟩ w) := by
  have HX := Lib.hid hx
  clear hx
  obtain ⟨b_A, hbx_A⟩ : ∃ b, b = w.heap.size := ⟨_, rfl⟩
  have kk_A : Blk ((w.alloc (.cells #[.slice (some ⟨ga, 0, none⟩) n ca, .int .i64 a, .int .i64 b, .int .i64 c, .int .i64 d, .int .i64 e, .int .i64 f] 43)).alloc (.cells #[.slice none 0 0, .int .i64 0, .int .i64 0, .int .i64 0, .int .i64 0, .int .i64 0, .int .i64 0] 43)) b_A 43 #[.slice (some ⟨ga, 0, none⟩) n ca, .int .i64 a, .int .i64 b, .int .i64 c, .int .i64 d, .int .i64 e, .int .i64 f] := ((Blk.new' (w := w) (t := 43) (cs := #[.slice (some ⟨ga, 0, none⟩) n ca, .int .i64 a, .int .i64 b, .int .i64 c, .int .i64 d, .int .i64 e, .int .i64 f]) (g := b_A) (by simp [hbx_A])).alloc (.cells #[.slice none 0 0, .int .i64 0, .int .i64 0, .int .i64 0, .int .i64 0, .int .i64 0, .int .i64 0] 43))
  have hwb_A : w.heap.size ≤ b_A := by omega
  obtain ⟨b_R, hbx_R⟩ : ∃ b, b = w.heap.size + 1 := ⟨_, rfl⟩
  have kk_R : Blk ((w.alloc (.cells #[.slice (some ⟨ga, 0, none⟩) n ca, .int .i64 a, .int .i64 b, .int .i64 c, .int .i64 d, .int .i64 e, .int .i64 f] 43)).alloc (.cells #[.slice none 0 0, .int .i64 0, .int .i64 0, .int .i64 0, .int .i64 0, .int .i64 0, .int .i64 0] 43)) b_R 43 #[.slice none 0 0, .int .i64 0, .int .i64 0, .int .i64 0, .int .i64 0, .int .i64 0, .int .i64 0] := (Blk.new' (w := (w.alloc (.cells #[.slice (some ⟨ga, 0, none⟩) n ca, .int .i64 a, .int .i64 b, .int .i64 c, .int .i64 d, .int .i64 e, .int .i64 f] 43))) (t := 43) (cs := #[.slice none 0 0, .int .i64 0, .int .i64 0, .int .i64 0, .int .i64 0, .int .i64 0, .int .i64 0]) (g := b_R) (by simp [hbx_R]))
  have hwb_R : w.heap.size ≤ b_R := by omega
  have NB_A_R : Hid (b_A ≠ b_R) := Lib.hid (by omega)
  have hb_0 : Below w.heap.size w ((w.alloc (.cells #[.slice (some ⟨ga, 0, none⟩) n ca, .int .i64 a, .int .i64 b, .int .i64 c, .int .i64 d, .int .i64 e, .int .i64 f] 43)).alloc (.cells #[.slice none 0 0, .int .i64 0, .int .i64 0, .int .i64 0, .int .i64 0, .int .i64 0, .int .i64 0] 43)) := by
    have h : In w.heap.size w ((w.alloc (.cells #[.slice (some ⟨ga, 0, none⟩) n ca, .int .i64 a, .int .i64 b, .int .i64 c, .int .i64 d, .int .i64 e, .int .i64 f] 43)).alloc (.cells #[.slice none 0 0, .int .i64 0, .int .i64 0, .int .i64 0, .int .i64 0, .int .i64 0, .int .i64 0] 43)) := by (repeat (first | exact In.refl _ | assumption | apply In.alloc | apply In.drewN | apply In.drew | (refine In.step ?_ (by assumption))))
    exact h.below
  have hsz_0 : ((w.alloc (.cells #[.slice (some ⟨ga, 0, none⟩) n ca, .int .i64 a, .int .i64 b, .int .i64 c, .int .i64 d, .int .i64 e, .int .i64 f] 43)).alloc (.cells #[.slice none 0 0, .int .i64 0, .int .i64 0, .int .i64 0, .int .i64 0, .int .i64 0, .int .i64 0] 43)).heap.size = b_R + 1 := by simp [hbx_R]
  go_enter Try.func71, Try.ntmps71
  go_wp2_with fail
  rw [← hbx_R]
  clear hbx_R
  rw [← hbx_A]
  clear hbx_A
  generalize ((w.alloc (.cells #[.slice (some ⟨ga, 0, none⟩) n ca, .int .i64 a, .int .i64 b, .int .i64 c, .int .i64 d, .int .i64 e, .int .i64 f] 43)).alloc (.cells #[.slice none 0 0, .int .i64 0, .int .i64 0, .int .i64 0, .int .i64 0, .int .i64 0, .int .i64 0] 43)) = w_0 at *
  have i_0 : In w.heap.size w w_0 := In.step (by (repeat (first | exact In.refl _ | assumption | apply In.alloc | apply In.drewN | apply In.drew | (refine In.step ?_ (by assumption))))) hb_0
  have k_0_A : Blk w_0 b_A 43 #[.slice (some ⟨ga, 0, none⟩) n ca, .int .i64 a, .int .i64 b, .int .i64 c, .int .i64 d, .int .i64 e, .int .i64 f] := kk_A
  obtain ⟨c_0_A_0, c_0_A_1, c_0_A_2, c_0_A_3, c_0_A_4, c_0_A_5, c_0_A_6⟩ := cells7 k_0_A
  have l_0_A := k_0_A.lt
  have z_0_A := k_0_A.frozen
  have k_0_R : Blk w_0 b_R 43 #[.slice none 0 0, .int .i64 0, .int .i64 0, .int .i64 0, .int .i64 0, .int .i64 0, .int .i64 0] := kk_R
  obtain ⟨c_0_R_0, c_0_R_1, c_0_R_2, c_0_R_3, c_0_R_4, c_0_R_5, c_0_R_6⟩ := cells7 k_0_R
  have l_0_R := k_0_R.lt
  have z_0_R := k_0_R.frozen
  clear kk_A kk_R
  go_wp2_with fail
  refine (iCloneE ga n ca xs _ (by omega) (HX.out.in_ (by (repeat (first | exact In.refl _ | assumption | apply In.alloc | apply In.drewN | apply In.drew | (refine In.step ?_ (by assumption))))))).mono ?_
  rintro _ w_1 ⟨gE_1, cE_1, rfl, hoE_1, hgE_1, hb_1⟩
  have GX_E : Hid (w.heap.size ≤ gE_1) := Lib.hid (by have h1 := hgE_1; (try simp at h1); have h2 := In.size i_0; omega)
  have o_1_E : OCEvent w_1 gE_1 (n) cE_1 xs := hoE_1
  clear hoE_1 hgE_1
  have i_1 : In w.heap.size w w_1 := In.step (by (repeat (first | exact In.refl _ | assumption | apply In.alloc | apply In.drewN | apply In.drew | (refine In.step ?_ (by assumption))))) hb_1
  have k_1_A : Blk w_1 b_A 43 #[.slice (some ⟨ga, 0, none⟩) n ca, .int .i64 a, .int .i64 b, .int .i64 c, .int .i64 d, .int .i64 e, .int .i64 f] := Blk.step (by (with_reducible (repeat (first | assumption | exact Blk.new' (by simp) | apply Blk.drewN | apply Blk.drew | apply Blk.alloc | (refine Blk.far ?_ (by (try simp) <;> omega) _))))) hb_1
  obtain ⟨c_1_A_0, c_1_A_1, c_1_A_2, c_1_A_3, c_1_A_4, c_1_A_5, c_1_A_6⟩ := cells7 k_1_A
  have l_1_A := k_1_A.lt
  have z_1_A := k_1_A.frozen
  have k_1_R : Blk w_1 b_R 43 #[.slice none 0 0, .int .i64 0, .int .i64 0, .int .i64 0, .int .i64 0, .int .i64 0, .int .i64 0] := Blk.step (by (with_reducible (repeat (first | assumption | exact Blk.new' (by simp) | apply Blk.drewN | apply Blk.drew | apply Blk.alloc | (refine Blk.far ?_ (by (try simp) <;> omega) _))))) hb_1
  obtain ⟨c_1_R_0, c_1_R_1, c_1_R_2, c_1_R_3, c_1_R_4, c_1_R_5, c_1_R_6⟩ := cells7 k_1_R
  have l_1_R := k_1_R.lt
  have z_1_R := k_1_R.frozen
  clear i_0 k_0_A c_0_A_0 c_0_A_1 c_0_A_2 c_0_A_3 c_0_A_4 c_0_A_5 c_0_A_6 l_0_A z_0_A k_0_R c_0_R_0 c_0_R_1 c_0_R_2 c_0_R_3 c_0_R_4 c_0_R_5 c_0_R_6 l_0_R z_0_R hb_0
  have hn1_A_R : b_R ≠ b_A := by first | exact NB_R_A.out | exact NB_A_R.out.symm
  have hn2_A_R : b_A ≠ b_R := hn1_A_R.symm
  have hn1_R_A : b_A ≠ b_R := by first | exact NB_A_R.out | exact NB_R_A.out.symm
  have hn2_R_A : b_R ≠ b_A := hn1_R_A.symm
  have kk : Blk ((((((((w_1.setCell ⟨b_A, 0, none⟩ (.slice (some ⟨gE_1, 0, none⟩) n cE_1)).setCell ⟨b_R, 0, none⟩ (.slice (some ⟨gE_1, 0, none⟩) n cE_1)).setCell ⟨b_R, 1, none⟩ (.int .i64 a)).setCell ⟨b_R, 2, none⟩ (.int .i64 b)).setCell ⟨b_R, 3, none⟩ (.int .i64 c)).setCell ⟨b_R, 4, none⟩ (.int .i64 d)).setCell ⟨b_R, 5, none⟩ (.int .i64 e)).setCell ⟨b_R, 6, none⟩ (.int .i64 f)) b_R 43 #[.slice (some ⟨gE_1, 0, none⟩) n cE_1, .int .i64 a, .int .i64 b, .int .i64 c, .int .i64 d, .int .i64 e, .int .i64 f] := by
    have h := ((((((((Blk.far k_1_R (p := ⟨b_A, 0, none⟩) (by first | exact NB_R_A.out | exact NB_A_R.out.symm) (.slice (some ⟨gE_1, 0, none⟩) n cE_1)).set_ 0 (.slice (some ⟨gE_1, 0, none⟩) n cE_1)).set_ 1 (.int .i64 a)).set_ 2 (.int .i64 b)).set_ 3 (.int .i64 c)).set_ 4 (.int .i64 d)).set_ 5 (.int .i64 e)).set_ 6 (.int .i64 f))
    simpa using h
  have i9 : In w.heap.size w ((((((((w_1.setCell ⟨b_A, 0, none⟩ (.slice (some ⟨gE_1, 0, none⟩) n cE_1)).setCell ⟨b_R, 0, none⟩ (.slice (some ⟨gE_1, 0, none⟩) n cE_1)).setCell ⟨b_R, 1, none⟩ (.int .i64 a)).setCell ⟨b_R, 2, none⟩ (.int .i64 b)).setCell ⟨b_R, 3, none⟩ (.int .i64 c)).setCell ⟨b_R, 4, none⟩ (.int .i64 d)).setCell ⟨b_R, 5, none⟩ (.int .i64 e)).setCell ⟨b_R, 6, none⟩ (.int .i64 f)) := (In.set_ (In.set_ (In.set_ (In.set_ (In.set_ (In.set_ (In.set_ (In.set_ i_1 (p := ⟨b_A, 0, none⟩) hwb_A (.slice (some ⟨gE_1, 0, none⟩) n cE_1)) (p := ⟨b_R, 0, none⟩) hwb_R (.slice (some ⟨gE_1, 0, none⟩) n cE_1)) (p := ⟨b_R, 1, none⟩) hwb_R (.int .i64 a)) (p := ⟨b_R, 2, none⟩) hwb_R (.int .i64 b)) (p := ⟨b_R, 3, none⟩) hwb_R (.int .i64 c)) (p := ⟨b_R, 4, none⟩) hwb_R (.int .i64 d)) (p := ⟨b_R, 5, none⟩) hwb_R (.int .i64 e)) (p := ⟨b_R, 6, none⟩) hwb_R (.int .i64 f))
  have OE : Hid (OCEvent ((((((((w_1.setCell ⟨b_A, 0, none⟩ (.slice (some ⟨gE_1, 0, none⟩) n cE_1)).setCell ⟨b_R, 0, none⟩ (.slice (some ⟨gE_1, 0, none⟩) n cE_1)).setCell ⟨b_R, 1, none⟩ (.int .i64 a)).setCell ⟨b_R, 2, none⟩ (.int .i64 b)).setCell ⟨b_R, 3, none⟩ (.int .i64 c)).setCell ⟨b_R, 4, none⟩ (.int .i64 d)).setCell ⟨b_R, 5, none⟩ (.int .i64 e)).setCell ⟨b_R, 6, none⟩ (.int .i64 f)) gE_1 (n) cE_1 xs) := Lib.hid (OCEvent.far (OCEvent.far o_1_E k_1_A (by decide) only1) (Blk.grown k_1_R only1 (fun h => (show b_R ≠ b_A by first | exact NB_R_A.out | exact NB_A_R.out.symm) (Option.some.inj h))) (by decide) only7)
  have HK0 : Hid ((_ : World).cell? ⟨b_R, 0, none⟩ = some (.slice (some ⟨gE_1, 0, none⟩) n cE_1)) := Lib.hid (kk.cell 0)
  have HK1 : Hid ((_ : World).cell? ⟨b_R, 1, none⟩ = some (.int .i64 a)) := Lib.hid (kk.cell 1)
  have HK2 : Hid ((_ : World).cell? ⟨b_R, 2, none⟩ = some (.int .i64 b)) := Lib.hid (kk.cell 2)
  have HK3 : Hid ((_ : World).cell? ⟨b_R, 3, none⟩ = some (.int .i64 c)) := Lib.hid (kk.cell 3)
  have HK4 : Hid ((_ : World).cell? ⟨b_R, 4, none⟩ = some (.int .i64 d)) := Lib.hid (kk.cell 4)
  have HK5 : Hid ((_ : World).cell? ⟨b_R, 5, none⟩ = some (.int .i64 e)) := Lib.hid (kk.cell 5)
  have HK6 : Hid ((_ : World).cell? ⟨b_R, 6, none⟩ = some (.int .i64 f)) := Lib.hid (kk.cell 6)
  clear kk
  clear o_1_E
  go_wp2
  have hk0 := HK0.out
  have hk1 := HK1.out
  have hk2 := HK2.out
  have hk3 := HK3.out
  have hk4 := HK4.out
  have hk5 := HK5.out
  have hk6 := HK6.out
  exact bodyPost_ret (v := .agg #[.slice (some ⟨gE_1, 0, none⟩) n cE_1, .int .i64 a, .int .i64 b, .int .i64 c, .int .i64 d, .int .i64 e, .int .i64 f]) (by simp [results, Try.results71, go_sem, hk0, hk1, hk2, hk3, hk4, hk5, hk6]) rfl (⟨gE_1, cE_1, rfl, OE.out, GX_E.out, i9.below⟩)
end Go.Proofs.Ytmcfghklfkmfkaa
