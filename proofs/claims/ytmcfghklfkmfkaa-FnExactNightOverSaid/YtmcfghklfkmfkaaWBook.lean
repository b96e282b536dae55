/- Book: the helpers of the laws by contract. -/
import Derived.Test.YtmcfghklfkmfkaaOCEvent
import Derived.Test.YtmcfghklfkmfkaaSRack
import Derived.Test.YtmcfghklfkmfkaaOwnC
import Derived.Test.YtmcfghklfkmfkaaSS0
import Derived.Test.YtmcfghklfkmfkaaIn
namespace Go.Proofs.Ytmcfghklfkmfkaa
open Go.ChangeShapes Go.WideShapes Go.ChangeAt Go.RowKit
set_option linter.unusedVariables false
set_option linter.unusedSimpArgs false
set_option maxHeartbeats 2000000

theorem ReadsI.in_ {w w' : World} {A : Option Addr} {n : Nat} {xs : List Int} (h : ReadsI w A n xs) (hi : In w.heap.size w w') : ReadsI w' A n xs := h.below hi.below (Nat.le_refl _)
theorem ne_OwnC_OCEvent {w : World} {g g' n n' c c' : Nat} {xs : List Int} {ys : List EventR} (h : OwnC w g n c xs) (k : OCEvent w g' n' c' ys) : g ≠ g' := by
  obtain ⟨cur, hk⟩ := k.blk
  exact h.ne hk (by decide)
theorem ne_IE {w : World} {g g' n n' c c' : Nat} {xs : List Int} {ys : List EventR} (h : OwnC w g n c xs) (k : OCEvent w g' n' c' ys) : g ≠ g' := ne_OwnC_OCEvent h k
theorem toBook_w (A : Option Addr) (n cap : Nat) (xs : List EventR) (a b c d e f : Int) (w : World) (hn : (n : Int) ≤ 10000000) (hx : ReadsEvent w A n xs) :
    Calls Try.prog 39 #[.agg #[.slice A n cap, .int .i64 a, .int .i64 b, .int .i64 c, .int .i64 d, .int .i64 e, .int .i64 f]] w (fun e' w' => ∃ g, e' = .returned (.agg #[.slice (some ⟨g, 0, none⟩) n n, .int .i64 a, .int .i64 b, .int .i64 c, .int .i64 d, .int .i64 e, .int .i64 f]) ∧ OCEvent w' g n n xs ∧ w.heap.size ≤ g ∧ Below w.heap.size w w') := by
  have HX := Lib.hid hx
  clear hx
  obtain ⟨b_A, hbx_A⟩ : ∃ b, b = w.heap.size := ⟨_, rfl⟩
  have kk_A : Blk (((w.alloc (.cells #[.slice A n cap, .int .i64 a, .int .i64 b, .int .i64 c, .int .i64 d, .int .i64 e, .int .i64 f] 33)).alloc (.cells #[.slice none 0 0, .int .i64 0, .int .i64 0, .int .i64 0, .int .i64 0, .int .i64 0, .int .i64 0] 43)).alloc (.cells #[.slice none 0 0, .int .i64 0, .int .i64 0, .int .i64 0, .int .i64 0, .int .i64 0, .int .i64 0] 43)) b_A 33 #[.slice A n cap, .int .i64 a, .int .i64 b, .int .i64 c, .int .i64 d, .int .i64 e, .int .i64 f] := (((Blk.new' (w := w) (t := 33) (cs := #[.slice A n cap, .int .i64 a, .int .i64 b, .int .i64 c, .int .i64 d, .int .i64 e, .int .i64 f]) (g := b_A) (by simp [hbx_A])).alloc (.cells #[.slice none 0 0, .int .i64 0, .int .i64 0, .int .i64 0, .int .i64 0, .int .i64 0, .int .i64 0] 43)).alloc (.cells #[.slice none 0 0, .int .i64 0, .int .i64 0, .int .i64 0, .int .i64 0, .int .i64 0, .int .i64 0] 43))
  have hwb_A : w.heap.size ≤ b_A := by omega
  obtain ⟨b_R, hbx_R⟩ : ∃ b, b = w.heap.size + 1 := ⟨_, rfl⟩
  have kk_R : Blk (((w.alloc (.cells #[.slice A n cap, .int .i64 a, .int .i64 b, .int .i64 c, .int .i64 d, .int .i64 e, .int .i64 f] 33)).alloc (.cells #[.slice none 0 0, .int .i64 0, .int .i64 0, .int .i64 0, .int .i64 0, .int .i64 0, .int .i64 0] 43)).alloc (.cells #[.slice none 0 0, .int .i64 0, .int .i64 0, .int .i64 0, .int .i64 0, .int .i64 0, .int .i64 0] 43)) b_R 43 #[.slice none 0 0, .int .i64 0, .int .i64 0, .int .i64 0, .int .i64 0, .int .i64 0, .int .i64 0] := ((Blk.new' (w := (w.alloc (.cells #[.slice A n cap, .int .i64 a, .int .i64 b, .int .i64 c, .int .i64 d, .int .i64 e, .int .i64 f] 33))) (t := 43) (cs := #[.slice none 0 0, .int .i64 0, .int .i64 0, .int .i64 0, .int .i64 0, .int .i64 0, .int .i64 0]) (g := b_R) (by simp [hbx_R])).alloc (.cells #[.slice none 0 0, .int .i64 0, .int .i64 0, .int .i64 0, .int .i64 0, .int .i64 0, .int .i64 0] 43))
  have hwb_R : w.heap.size ≤ b_R := by omega
  obtain ⟨b_O, hbx_O⟩ : ∃ b, b = w.heap.size + 1 + 1 := ⟨_, rfl⟩
  have kk_O : Blk (((w.alloc (.cells #[.slice A n cap, .int .i64 a, .int .i64 b, .int .i64 c, .int .i64 d, .int .i64 e, .int .i64 f] 33)).alloc (.cells #[.slice none 0 0, .int .i64 0, .int .i64 0, .int .i64 0, .int .i64 0, .int .i64 0, .int .i64 0] 43)).alloc (.cells #[.slice none 0 0, .int .i64 0, .int .i64 0, .int .i64 0, .int .i64 0, .int .i64 0, .int .i64 0] 43)) b_O 43 #[.slice none 0 0, .int .i64 0, .int .i64 0, .int .i64 0, .int .i64 0, .int .i64 0, .int .i64 0] := (Blk.new' (w := ((w.alloc (.cells #[.slice A n cap, .int .i64 a, .int .i64 b, .int .i64 c, .int .i64 d, .int .i64 e, .int .i64 f] 33)).alloc (.cells #[.slice none 0 0, .int .i64 0, .int .i64 0, .int .i64 0, .int .i64 0, .int .i64 0, .int .i64 0] 43))) (t := 43) (cs := #[.slice none 0 0, .int .i64 0, .int .i64 0, .int .i64 0, .int .i64 0, .int .i64 0, .int .i64 0]) (g := b_O) (by simp [hbx_O]))
  have hwb_O : w.heap.size ≤ b_O := by omega
  have NB_A_R : Hid (b_A ≠ b_R) := Lib.hid (by omega)
  have NB_A_O : Hid (b_A ≠ b_O) := Lib.hid (by omega)
  have NB_R_O : Hid (b_R ≠ b_O) := Lib.hid (by omega)
  have hb_0 : Below w.heap.size w (((w.alloc (.cells #[.slice A n cap, .int .i64 a, .int .i64 b, .int .i64 c, .int .i64 d, .int .i64 e, .int .i64 f] 33)).alloc (.cells #[.slice none 0 0, .int .i64 0, .int .i64 0, .int .i64 0, .int .i64 0, .int .i64 0, .int .i64 0] 43)).alloc (.cells #[.slice none 0 0, .int .i64 0, .int .i64 0, .int .i64 0, .int .i64 0, .int .i64 0, .int .i64 0] 43)) := by
    have h : In w.heap.size w (((w.alloc (.cells #[.slice A n cap, .int .i64 a, .int .i64 b, .int .i64 c, .int .i64 d, .int .i64 e, .int .i64 f] 33)).alloc (.cells #[.slice none 0 0, .int .i64 0, .int .i64 0, .int .i64 0, .int .i64 0, .int .i64 0, .int .i64 0] 43)).alloc (.cells #[.slice none 0 0, .int .i64 0, .int .i64 0, .int .i64 0, .int .i64 0, .int .i64 0, .int .i64 0] 43)) := by (repeat (first | exact In.refl _ | assumption | apply In.alloc | apply In.drewN | apply In.drew | (refine In.step ?_ (by assumption))))
    exact h.below
  go_enter Try.func39, Try.ntmps39
  go_wp2_with fail
  rw [← hbx_O]
  clear hbx_O
  rw [← hbx_R]
  clear hbx_R
  rw [← hbx_A]
  clear hbx_A
  generalize (((w.alloc (.cells #[.slice A n cap, .int .i64 a, .int .i64 b, .int .i64 c, .int .i64 d, .int .i64 e, .int .i64 f] 33)).alloc (.cells #[.slice none 0 0, .int .i64 0, .int .i64 0, .int .i64 0, .int .i64 0, .int .i64 0, .int .i64 0] 43)).alloc (.cells #[.slice none 0 0, .int .i64 0, .int .i64 0, .int .i64 0, .int .i64 0, .int .i64 0, .int .i64 0] 43)) = w_0 at *
  have i_0 : In w.heap.size w w_0 := In.step (by (repeat (first | exact In.refl _ | assumption | apply In.alloc | apply In.drewN | apply In.drew | (refine In.step ?_ (by assumption))))) hb_0
  have k_0_A : Blk w_0 b_A 33 #[.slice A n cap, .int .i64 a, .int .i64 b, .int .i64 c, .int .i64 d, .int .i64 e, .int .i64 f] := kk_A
  obtain ⟨c_0_A_0, c_0_A_1, c_0_A_2, c_0_A_3, c_0_A_4, c_0_A_5, c_0_A_6⟩ := cells7 k_0_A
  have l_0_A := k_0_A.lt
  have k_0_R : Blk w_0 b_R 43 #[.slice none 0 0, .int .i64 0, .int .i64 0, .int .i64 0, .int .i64 0, .int .i64 0, .int .i64 0] := kk_R
  obtain ⟨c_0_R_0, c_0_R_1, c_0_R_2, c_0_R_3, c_0_R_4, c_0_R_5, c_0_R_6⟩ := cells7 k_0_R
  have l_0_R := k_0_R.lt
  have z_0_R := k_0_R.frozen
  have k_0_O : Blk w_0 b_O 43 #[.slice none 0 0, .int .i64 0, .int .i64 0, .int .i64 0, .int .i64 0, .int .i64 0, .int .i64 0] := kk_O
  obtain ⟨c_0_O_0, c_0_O_1, c_0_O_2, c_0_O_3, c_0_O_4, c_0_O_5, c_0_O_6⟩ := cells7 k_0_O
  have l_0_O := k_0_O.lt
  have z_0_O := k_0_O.frozen
  clear kk_A kk_R kk_O
  go_wp2_with fail
  refine (toEventS_o A n cap xs _ hn (HX.out.in_ (by (repeat (first | exact In.refl _ | assumption | apply In.alloc | apply In.drewN | apply In.drew | (refine In.step ?_ (by assumption))))))).mono ?_
  rintro _ w_1 ⟨gE_1, rfl, hoE_1, hgE_1, hb_1⟩
  have GX_E : Hid (w.heap.size ≤ gE_1) := Lib.hid (by have h1 := hgE_1; (try simp at h1); have h2 := In.size i_0; omega)
  have o_1_E : OCEvent w_1 gE_1 (n) n xs := hoE_1
  clear hoE_1 hgE_1
  have i_1 : In w.heap.size w w_1 := In.step (by (repeat (first | exact In.refl _ | assumption | apply In.alloc | apply In.drewN | apply In.drew | (refine In.step ?_ (by assumption))))) hb_1
  have k_1_A : Blk w_1 b_A 33 #[.slice A n cap, .int .i64 a, .int .i64 b, .int .i64 c, .int .i64 d, .int .i64 e, .int .i64 f] := Blk.step (by (with_reducible (repeat (first | assumption | exact Blk.new' (by simp) | apply Blk.drewN | apply Blk.drew | apply Blk.alloc | (refine Blk.far ?_ (by (try simp) <;> omega) _))))) hb_1
  obtain ⟨c_1_A_0, c_1_A_1, c_1_A_2, c_1_A_3, c_1_A_4, c_1_A_5, c_1_A_6⟩ := cells7 k_1_A
  have l_1_A := k_1_A.lt
  have k_1_R : Blk w_1 b_R 43 #[.slice none 0 0, .int .i64 0, .int .i64 0, .int .i64 0, .int .i64 0, .int .i64 0, .int .i64 0] := Blk.step (by (with_reducible (repeat (first | assumption | exact Blk.new' (by simp) | apply Blk.drewN | apply Blk.drew | apply Blk.alloc | (refine Blk.far ?_ (by (try simp) <;> omega) _))))) hb_1
  obtain ⟨c_1_R_0, c_1_R_1, c_1_R_2, c_1_R_3, c_1_R_4, c_1_R_5, c_1_R_6⟩ := cells7 k_1_R
  have l_1_R := k_1_R.lt
  have z_1_R := k_1_R.frozen
  have k_1_O : Blk w_1 b_O 43 #[.slice none 0 0, .int .i64 0, .int .i64 0, .int .i64 0, .int .i64 0, .int .i64 0, .int .i64 0] := Blk.step (by (with_reducible (repeat (first | assumption | exact Blk.new' (by simp) | apply Blk.drewN | apply Blk.drew | apply Blk.alloc | (refine Blk.far ?_ (by (try simp) <;> omega) _))))) hb_1
  obtain ⟨c_1_O_0, c_1_O_1, c_1_O_2, c_1_O_3, c_1_O_4, c_1_O_5, c_1_O_6⟩ := cells7 k_1_O
  have l_1_O := k_1_O.lt
  have z_1_O := k_1_O.frozen
  clear i_0 k_0_A c_0_A_0 c_0_A_1 c_0_A_2 c_0_A_3 c_0_A_4 c_0_A_5 c_0_A_6 l_0_A k_0_R c_0_R_0 c_0_R_1 c_0_R_2 c_0_R_3 c_0_R_4 c_0_R_5 c_0_R_6 l_0_R z_0_R k_0_O c_0_O_0 c_0_O_1 c_0_O_2 c_0_O_3 c_0_O_4 c_0_O_5 c_0_O_6 l_0_O z_0_O hb_0
  have hn1_O_A : b_A ≠ b_O := by first | exact NB_A_O.out | exact NB_O_A.out.symm
  have hn2_O_A : b_O ≠ b_A := hn1_O_A.symm
  have hn1_O_R : b_R ≠ b_O := by first | exact NB_R_O.out | exact NB_O_R.out.symm
  have hn2_O_R : b_O ≠ b_R := hn1_O_R.symm
  go_wp2_with fail
  have kf_A : Blk (w_1.setCell ⟨b_O, 0, none⟩ (.slice (some ⟨gE_1, 0, none⟩) n n)) b_A 33 #[.slice A n cap, .int .i64 a, .int .i64 b, .int .i64 c, .int .i64 d, .int .i64 e, .int .i64 f] := by
    have h := (Blk.far k_1_A (p := ⟨b_O, 0, none⟩) (by first | exact NB_A_O.out | exact NB_O_A.out.symm) (.slice (some ⟨gE_1, 0, none⟩) n n))
    simpa using h
  have kf_R : Blk (w_1.setCell ⟨b_O, 0, none⟩ (.slice (some ⟨gE_1, 0, none⟩) n n)) b_R 43 #[.slice none 0 0, .int .i64 0, .int .i64 0, .int .i64 0, .int .i64 0, .int .i64 0, .int .i64 0] := by
    have h := (Blk.far k_1_R (p := ⟨b_O, 0, none⟩) (by first | exact NB_R_O.out | exact NB_O_R.out.symm) (.slice (some ⟨gE_1, 0, none⟩) n n))
    simpa using h
  have kf_O : Blk (w_1.setCell ⟨b_O, 0, none⟩ (.slice (some ⟨gE_1, 0, none⟩) n n)) b_O 43 #[.slice (some ⟨gE_1, 0, none⟩) n n, .int .i64 0, .int .i64 0, .int .i64 0, .int .i64 0, .int .i64 0, .int .i64 0] := by
    have h := (k_1_O.set_ 0 (.slice (some ⟨gE_1, 0, none⟩) n n))
    simpa using h
  have fo_E : OCEvent (w_1.setCell ⟨b_O, 0, none⟩ (.slice (some ⟨gE_1, 0, none⟩) n n)) gE_1 (n) n xs := (OCEvent.far o_1_E k_1_O (by decide) (only_set ⟨b_O, 0, none⟩ (.slice (some ⟨gE_1, 0, none⟩) n n)))
  have ii_2 : In w.heap.size w (w_1.setCell ⟨b_O, 0, none⟩ (.slice (some ⟨gE_1, 0, none⟩) n n)) := (In.set_ i_1 (p := ⟨b_O, 0, none⟩) hwb_O (.slice (some ⟨gE_1, 0, none⟩) n n))
  generalize (w_1.setCell ⟨b_O, 0, none⟩ (.slice (some ⟨gE_1, 0, none⟩) n n)) = w_2 at *
  clear hn1_O_A hn2_O_A hn1_O_R hn2_O_R
  have i_2 : In w.heap.size w w_2 := ii_2
  have k_2_A : Blk w_2 b_A 33 #[.slice A n cap, .int .i64 a, .int .i64 b, .int .i64 c, .int .i64 d, .int .i64 e, .int .i64 f] := kf_A
  obtain ⟨c_2_A_0, c_2_A_1, c_2_A_2, c_2_A_3, c_2_A_4, c_2_A_5, c_2_A_6⟩ := cells7 k_2_A
  have l_2_A := k_2_A.lt
  have k_2_R : Blk w_2 b_R 43 #[.slice none 0 0, .int .i64 0, .int .i64 0, .int .i64 0, .int .i64 0, .int .i64 0, .int .i64 0] := kf_R
  obtain ⟨c_2_R_0, c_2_R_1, c_2_R_2, c_2_R_3, c_2_R_4, c_2_R_5, c_2_R_6⟩ := cells7 k_2_R
  have l_2_R := k_2_R.lt
  have z_2_R := k_2_R.frozen
  have k_2_O : Blk w_2 b_O 43 #[.slice (some ⟨gE_1, 0, none⟩) n n, .int .i64 0, .int .i64 0, .int .i64 0, .int .i64 0, .int .i64 0, .int .i64 0] := kf_O
  obtain ⟨c_2_O_0, c_2_O_1, c_2_O_2, c_2_O_3, c_2_O_4, c_2_O_5, c_2_O_6⟩ := cells7 k_2_O
  have l_2_O := k_2_O.lt
  have z_2_O := k_2_O.frozen
  have o_2_E : OCEvent w_2 gE_1 (n) n xs := fo_E
  clear i_1 k_1_A c_1_A_0 c_1_A_1 c_1_A_2 c_1_A_3 c_1_A_4 c_1_A_5 c_1_A_6 l_1_A k_1_R c_1_R_0 c_1_R_1 c_1_R_2 c_1_R_3 c_1_R_4 c_1_R_5 c_1_R_6 l_1_R z_1_R k_1_O c_1_O_0 c_1_O_1 c_1_O_2 c_1_O_3 c_1_O_4 c_1_O_5 c_1_O_6 l_1_O z_1_O o_1_E hb_1
  clear ii_2 kf_A kf_R kf_O fo_E
  skip
  refine (toRack_c a b c _).mono ?_
  rintro _ w_3 ⟨rfl, hb_3⟩
  have i_3 : In w.heap.size w w_3 := In.step (by (repeat (first | exact In.refl _ | assumption | apply In.alloc | apply In.drewN | apply In.drew | (refine In.step ?_ (by assumption))))) hb_3
  have k_3_A : Blk w_3 b_A 33 #[.slice A n cap, .int .i64 a, .int .i64 b, .int .i64 c, .int .i64 d, .int .i64 e, .int .i64 f] := Blk.step (by (with_reducible (repeat (first | assumption | exact Blk.new' (by simp) | apply Blk.drewN | apply Blk.drew | apply Blk.alloc | (refine Blk.far ?_ (by (try simp) <;> omega) _))))) hb_3
  obtain ⟨c_3_A_0, c_3_A_1, c_3_A_2, c_3_A_3, c_3_A_4, c_3_A_5, c_3_A_6⟩ := cells7 k_3_A
  have l_3_A := k_3_A.lt
  have k_3_R : Blk w_3 b_R 43 #[.slice none 0 0, .int .i64 0, .int .i64 0, .int .i64 0, .int .i64 0, .int .i64 0, .int .i64 0] := Blk.step (by (with_reducible (repeat (first | assumption | exact Blk.new' (by simp) | apply Blk.drewN | apply Blk.drew | apply Blk.alloc | (refine Blk.far ?_ (by (try simp) <;> omega) _))))) hb_3
  obtain ⟨c_3_R_0, c_3_R_1, c_3_R_2, c_3_R_3, c_3_R_4, c_3_R_5, c_3_R_6⟩ := cells7 k_3_R
  have l_3_R := k_3_R.lt
  have z_3_R := k_3_R.frozen
  have k_3_O : Blk w_3 b_O 43 #[.slice (some ⟨gE_1, 0, none⟩) n n, .int .i64 0, .int .i64 0, .int .i64 0, .int .i64 0, .int .i64 0, .int .i64 0] := Blk.step (by (with_reducible (repeat (first | assumption | exact Blk.new' (by simp) | apply Blk.drewN | apply Blk.drew | apply Blk.alloc | (refine Blk.far ?_ (by (try simp) <;> omega) _))))) hb_3
  obtain ⟨c_3_O_0, c_3_O_1, c_3_O_2, c_3_O_3, c_3_O_4, c_3_O_5, c_3_O_6⟩ := cells7 k_3_O
  have l_3_O := k_3_O.lt
  have z_3_O := k_3_O.frozen
  have o_3_E : OCEvent w_3 gE_1 (n) n xs := OCEvent.step (by with_reducible (repeat (first | assumption | apply OCEvent.drewN | apply OCEvent.drew | apply OCEvent.alloc))) hb_3
  clear i_2 k_2_A c_2_A_0 c_2_A_1 c_2_A_2 c_2_A_3 c_2_A_4 c_2_A_5 c_2_A_6 l_2_A k_2_R c_2_R_0 c_2_R_1 c_2_R_2 c_2_R_3 c_2_R_4 c_2_R_5 c_2_R_6 l_2_R z_2_R k_2_O c_2_O_0 c_2_O_1 c_2_O_2 c_2_O_3 c_2_O_4 c_2_O_5 c_2_O_6 l_2_O z_2_O o_2_E
  have hn1_O_A : b_A ≠ b_O := by first | exact NB_A_O.out | exact NB_O_A.out.symm
  have hn2_O_A : b_O ≠ b_A := hn1_O_A.symm
  have hn1_O_R : b_R ≠ b_O := by first | exact NB_R_O.out | exact NB_O_R.out.symm
  have hn2_O_R : b_O ≠ b_R := hn1_O_R.symm
  have hn1_R_A : b_A ≠ b_R := by first | exact NB_A_R.out | exact NB_R_A.out.symm
  have hn2_R_A : b_R ≠ b_A := hn1_R_A.symm
  have hn1_R_O : b_O ≠ b_R := by first | exact NB_O_R.out | exact NB_R_O.out.symm
  have hn2_R_O : b_R ≠ b_O := hn1_R_O.symm
  have kk : Blk (((((((((((((w_3.setCell ⟨b_O, 1, none⟩ (.int .i64 a)).setCell ⟨b_O, 2, none⟩ (.int .i64 b)).setCell ⟨b_O, 3, none⟩ (.int .i64 c)).setCell ⟨b_O, 4, none⟩ (.int .i64 d)).setCell ⟨b_O, 5, none⟩ (.int .i64 e)).setCell ⟨b_O, 6, none⟩ (.int .i64 f)).setCell ⟨b_R, 0, none⟩ (.slice (some ⟨gE_1, 0, none⟩) n n)).setCell ⟨b_R, 1, none⟩ (.int .i64 a)).setCell ⟨b_R, 2, none⟩ (.int .i64 b)).setCell ⟨b_R, 3, none⟩ (.int .i64 c)).setCell ⟨b_R, 4, none⟩ (.int .i64 d)).setCell ⟨b_R, 5, none⟩ (.int .i64 e)).setCell ⟨b_R, 6, none⟩ (.int .i64 f)) b_R 43 #[.slice (some ⟨gE_1, 0, none⟩) n n, .int .i64 a, .int .i64 b, .int .i64 c, .int .i64 d, .int .i64 e, .int .i64 f] := by
    have h := ((((((((Blk.far (Blk.far (Blk.far (Blk.far (Blk.far (Blk.far k_3_R (p := ⟨b_O, 1, none⟩) (by first | exact NB_R_O.out | exact NB_O_R.out.symm) (.int .i64 a)) (p := ⟨b_O, 2, none⟩) (by first | exact NB_R_O.out | exact NB_O_R.out.symm) (.int .i64 b)) (p := ⟨b_O, 3, none⟩) (by first | exact NB_R_O.out | exact NB_O_R.out.symm) (.int .i64 c)) (p := ⟨b_O, 4, none⟩) (by first | exact NB_R_O.out | exact NB_O_R.out.symm) (.int .i64 d)) (p := ⟨b_O, 5, none⟩) (by first | exact NB_R_O.out | exact NB_O_R.out.symm) (.int .i64 e)) (p := ⟨b_O, 6, none⟩) (by first | exact NB_R_O.out | exact NB_O_R.out.symm) (.int .i64 f)).set_ 0 (.slice (some ⟨gE_1, 0, none⟩) n n)).set_ 1 (.int .i64 a)).set_ 2 (.int .i64 b)).set_ 3 (.int .i64 c)).set_ 4 (.int .i64 d)).set_ 5 (.int .i64 e)).set_ 6 (.int .i64 f))
    simpa using h
  have i9 : In w.heap.size w (((((((((((((w_3.setCell ⟨b_O, 1, none⟩ (.int .i64 a)).setCell ⟨b_O, 2, none⟩ (.int .i64 b)).setCell ⟨b_O, 3, none⟩ (.int .i64 c)).setCell ⟨b_O, 4, none⟩ (.int .i64 d)).setCell ⟨b_O, 5, none⟩ (.int .i64 e)).setCell ⟨b_O, 6, none⟩ (.int .i64 f)).setCell ⟨b_R, 0, none⟩ (.slice (some ⟨gE_1, 0, none⟩) n n)).setCell ⟨b_R, 1, none⟩ (.int .i64 a)).setCell ⟨b_R, 2, none⟩ (.int .i64 b)).setCell ⟨b_R, 3, none⟩ (.int .i64 c)).setCell ⟨b_R, 4, none⟩ (.int .i64 d)).setCell ⟨b_R, 5, none⟩ (.int .i64 e)).setCell ⟨b_R, 6, none⟩ (.int .i64 f)) := (In.set_ (In.set_ (In.set_ (In.set_ (In.set_ (In.set_ (In.set_ (In.set_ (In.set_ (In.set_ (In.set_ (In.set_ (In.set_ i_3 (p := ⟨b_O, 1, none⟩) hwb_O (.int .i64 a)) (p := ⟨b_O, 2, none⟩) hwb_O (.int .i64 b)) (p := ⟨b_O, 3, none⟩) hwb_O (.int .i64 c)) (p := ⟨b_O, 4, none⟩) hwb_O (.int .i64 d)) (p := ⟨b_O, 5, none⟩) hwb_O (.int .i64 e)) (p := ⟨b_O, 6, none⟩) hwb_O (.int .i64 f)) (p := ⟨b_R, 0, none⟩) hwb_R (.slice (some ⟨gE_1, 0, none⟩) n n)) (p := ⟨b_R, 1, none⟩) hwb_R (.int .i64 a)) (p := ⟨b_R, 2, none⟩) hwb_R (.int .i64 b)) (p := ⟨b_R, 3, none⟩) hwb_R (.int .i64 c)) (p := ⟨b_R, 4, none⟩) hwb_R (.int .i64 d)) (p := ⟨b_R, 5, none⟩) hwb_R (.int .i64 e)) (p := ⟨b_R, 6, none⟩) hwb_R (.int .i64 f))
  have OE : Hid (OCEvent (((((((((((((w_3.setCell ⟨b_O, 1, none⟩ (.int .i64 a)).setCell ⟨b_O, 2, none⟩ (.int .i64 b)).setCell ⟨b_O, 3, none⟩ (.int .i64 c)).setCell ⟨b_O, 4, none⟩ (.int .i64 d)).setCell ⟨b_O, 5, none⟩ (.int .i64 e)).setCell ⟨b_O, 6, none⟩ (.int .i64 f)).setCell ⟨b_R, 0, none⟩ (.slice (some ⟨gE_1, 0, none⟩) n n)).setCell ⟨b_R, 1, none⟩ (.int .i64 a)).setCell ⟨b_R, 2, none⟩ (.int .i64 b)).setCell ⟨b_R, 3, none⟩ (.int .i64 c)).setCell ⟨b_R, 4, none⟩ (.int .i64 d)).setCell ⟨b_R, 5, none⟩ (.int .i64 e)).setCell ⟨b_R, 6, none⟩ (.int .i64 f)) gE_1 (n) n xs) := Lib.hid (OCEvent.far (OCEvent.far o_3_E k_3_O (by decide) only6) (Blk.grown k_3_R only6 (fun h => (show b_R ≠ b_O by first | exact NB_R_O.out | exact NB_O_R.out.symm) (Option.some.inj h))) (by decide) only7)
  have HK0 : Hid ((_ : World).cell? ⟨b_R, 0, none⟩ = some (.slice (some ⟨gE_1, 0, none⟩) n n)) := Lib.hid (kk.cell 0)
  have HK1 : Hid ((_ : World).cell? ⟨b_R, 1, none⟩ = some (.int .i64 a)) := Lib.hid (kk.cell 1)
  have HK2 : Hid ((_ : World).cell? ⟨b_R, 2, none⟩ = some (.int .i64 b)) := Lib.hid (kk.cell 2)
  have HK3 : Hid ((_ : World).cell? ⟨b_R, 3, none⟩ = some (.int .i64 c)) := Lib.hid (kk.cell 3)
  have HK4 : Hid ((_ : World).cell? ⟨b_R, 4, none⟩ = some (.int .i64 d)) := Lib.hid (kk.cell 4)
  have HK5 : Hid ((_ : World).cell? ⟨b_R, 5, none⟩ = some (.int .i64 e)) := Lib.hid (kk.cell 5)
  have HK6 : Hid ((_ : World).cell? ⟨b_R, 6, none⟩ = some (.int .i64 f)) := Lib.hid (kk.cell 6)
  clear kk
  clear o_3_E
  go_wp2
  have hk0 := HK0.out
  have hk1 := HK1.out
  have hk2 := HK2.out
  have hk3 := HK3.out
  have hk4 := HK4.out
  have hk5 := HK5.out
  have hk6 := HK6.out
  exact bodyPost_ret (v := .agg #[.slice (some ⟨gE_1, 0, none⟩) n n, .int .i64 a, .int .i64 b, .int .i64 c, .int .i64 d, .int .i64 e, .int .i64 f]) (by simp [results, Try.results39, go_sem, hk0, hk1, hk2, hk3, hk4, hk5, hk6]) rfl (⟨gE_1, rfl, OE.out, GX_E.out, i9.below⟩)
theorem szBook_w (A : Option Addr) (n cap : Nat) (a b c d e f : Int) (left : Int) (w : World) (hn : n ≤ maxLen) (h1 : 0 ≤ left) (h2 : left ≤ 2000000) : Calls Try.prog 37 #[.agg #[.slice A n cap, .int .i64 a, .int .i64 b, .int .i64 c, .int .i64 d, .int .i64 e, .int .i64 f], .int .i64 left] w (Val (.int .i64 (if left < n then -1 else left - n)) w) := by
  have HS := Lib.hid (fun W => szEventS_c A n cap left W hn h1 h2)
  by_cases h : left < n
  · rw [if_pos h] at HS ⊢
    go_enter Try.func37, Try.ntmps37
    go_wp2_with fail
    refine (HS.out _).mono ?_
    rintro _ _ ⟨rfl, rfl⟩
    go_wp2
    go_ret
    exact Val.mk' rfl (by (repeat (first | exact In.refl _ | assumption | apply In.alloc | apply In.drewN | apply In.drew | (refine In.step ?_ (by assumption)))))
  · rw [if_neg h] at HS ⊢
    have h' : 0 ≤ left - n := by omega
    have hd : decide (left - (n : Int) < 0) = false := by simp; omega
    go_enter Try.func37, Try.ntmps37
    go_wp2_with fail
    refine (HS.out _).mono ?_
    rintro _ _ ⟨rfl, rfl⟩
    go_wp2
    go_ret
    exact Val.mk' rfl (by (repeat (first | exact In.refl _ | assumption | apply In.alloc | apply In.drewN | apply In.drew | (refine In.step ?_ (by assumption)))))
theorem markEventS_n (c k : Nat) (w : World) : Calls Try.prog 76 #[.slice none 0 c, .int .i64 (k : Int)] w (Val (.int .i64 (k : Int)) w) := by
  go_enter Try.func76, Try.ntmps76
  go_wp2
  go_loopw [1, 5] (fun q i wr => i = .int .i64 0 ∧ q = .int .i64 (k : Int) ∧ In w.heap.size w wr) (fun _ i _ => 0)
  case atStart => exact ⟨rfl, rfl, by (repeat (first | exact In.refl _ | assumption | apply In.alloc | apply In.drewN | apply In.drew | (refine In.step ?_ (by assumption))))⟩
  case round =>
    obtain ⟨rfl, rfl, hi⟩ := hrel
    go_wp2
    go_ret
    exact Val.mk' rfl (by (repeat (first | exact In.refl _ | assumption | apply In.alloc | apply In.drewN | apply In.drew | (refine In.step ?_ (by assumption)))))
theorem eqBook_w (A B : Option Addr) (n cap d9 : Nat) (xs : List EventR) (a b c d e f : Int) (w : World) (hn : n ≤ maxLen) (hx : ReadsEvent w A n xs) (hy : ReadsEvent w B n xs) : Calls Try.prog 45 #[.agg #[.slice A n cap, .int .i64 a, .int .i64 b, .int .i64 c, .int .i64 d, .int .i64 e, .int .i64 f], .agg #[.slice B n d9, .int .i64 a, .int .i64 b, .int .i64 c, .int .i64 d, .int .i64 e, .int .i64 f]] w (Val (.bool true) w) := by
  have HX := Lib.hid hx
  have HY := Lib.hid hy
  clear hx hy
  obtain ⟨b_A, hbx_A⟩ : ∃ b, b = w.heap.size := ⟨_, rfl⟩
  have kk_A : Blk ((w.alloc (.cells #[.slice A n cap, .int .i64 a, .int .i64 b, .int .i64 c, .int .i64 d, .int .i64 e, .int .i64 f] 43)).alloc (.cells #[.slice B n d9, .int .i64 a, .int .i64 b, .int .i64 c, .int .i64 d, .int .i64 e, .int .i64 f] 43)) b_A 43 #[.slice A n cap, .int .i64 a, .int .i64 b, .int .i64 c, .int .i64 d, .int .i64 e, .int .i64 f] := ((Blk.new' (w := w) (t := 43) (cs := #[.slice A n cap, .int .i64 a, .int .i64 b, .int .i64 c, .int .i64 d, .int .i64 e, .int .i64 f]) (g := b_A) (by simp [hbx_A])).alloc (.cells #[.slice B n d9, .int .i64 a, .int .i64 b, .int .i64 c, .int .i64 d, .int .i64 e, .int .i64 f] 43))
  have hwb_A : w.heap.size ≤ b_A := by omega
  obtain ⟨b_B, hbx_B⟩ : ∃ b, b = w.heap.size + 1 := ⟨_, rfl⟩
  have kk_B : Blk ((w.alloc (.cells #[.slice A n cap, .int .i64 a, .int .i64 b, .int .i64 c, .int .i64 d, .int .i64 e, .int .i64 f] 43)).alloc (.cells #[.slice B n d9, .int .i64 a, .int .i64 b, .int .i64 c, .int .i64 d, .int .i64 e, .int .i64 f] 43)) b_B 43 #[.slice B n d9, .int .i64 a, .int .i64 b, .int .i64 c, .int .i64 d, .int .i64 e, .int .i64 f] := (Blk.new' (w := (w.alloc (.cells #[.slice A n cap, .int .i64 a, .int .i64 b, .int .i64 c, .int .i64 d, .int .i64 e, .int .i64 f] 43))) (t := 43) (cs := #[.slice B n d9, .int .i64 a, .int .i64 b, .int .i64 c, .int .i64 d, .int .i64 e, .int .i64 f]) (g := b_B) (by simp [hbx_B]))
  have hwb_B : w.heap.size ≤ b_B := by omega
  have NB_A_B : Hid (b_A ≠ b_B) := Lib.hid (by omega)
  have hb_0 : Below w.heap.size w ((w.alloc (.cells #[.slice A n cap, .int .i64 a, .int .i64 b, .int .i64 c, .int .i64 d, .int .i64 e, .int .i64 f] 43)).alloc (.cells #[.slice B n d9, .int .i64 a, .int .i64 b, .int .i64 c, .int .i64 d, .int .i64 e, .int .i64 f] 43)) := by
    have h : In w.heap.size w ((w.alloc (.cells #[.slice A n cap, .int .i64 a, .int .i64 b, .int .i64 c, .int .i64 d, .int .i64 e, .int .i64 f] 43)).alloc (.cells #[.slice B n d9, .int .i64 a, .int .i64 b, .int .i64 c, .int .i64 d, .int .i64 e, .int .i64 f] 43)) := by (repeat (first | exact In.refl _ | assumption | apply In.alloc | apply In.drewN | apply In.drew | (refine In.step ?_ (by assumption))))
    exact h.below
  go_enter Try.func45, Try.ntmps45
  go_wp2_with fail
  rw [← hbx_B]
  clear hbx_B
  rw [← hbx_A]
  clear hbx_A
  generalize ((w.alloc (.cells #[.slice A n cap, .int .i64 a, .int .i64 b, .int .i64 c, .int .i64 d, .int .i64 e, .int .i64 f] 43)).alloc (.cells #[.slice B n d9, .int .i64 a, .int .i64 b, .int .i64 c, .int .i64 d, .int .i64 e, .int .i64 f] 43)) = w_0 at *
  have i_0 : In w.heap.size w w_0 := In.step (by (repeat (first | exact In.refl _ | assumption | apply In.alloc | apply In.drewN | apply In.drew | (refine In.step ?_ (by assumption))))) hb_0
  have k_0_A : Blk w_0 b_A 43 #[.slice A n cap, .int .i64 a, .int .i64 b, .int .i64 c, .int .i64 d, .int .i64 e, .int .i64 f] := kk_A
  obtain ⟨c_0_A_0, c_0_A_1, c_0_A_2, c_0_A_3, c_0_A_4, c_0_A_5, c_0_A_6⟩ := cells7 k_0_A
  have l_0_A := k_0_A.lt
  have k_0_B : Blk w_0 b_B 43 #[.slice B n d9, .int .i64 a, .int .i64 b, .int .i64 c, .int .i64 d, .int .i64 e, .int .i64 f] := kk_B
  obtain ⟨c_0_B_0, c_0_B_1, c_0_B_2, c_0_B_3, c_0_B_4, c_0_B_5, c_0_B_6⟩ := cells7 k_0_B
  have l_0_B := k_0_B.lt
  clear kk_A kk_B
  go_wp2_with fail
  refine (eqEventS_c A B n cap d9 xs _ hn (HX.out.in_ (by (repeat (first | exact In.refl _ | assumption | apply In.alloc | apply In.drewN | apply In.drew | (refine In.step ?_ (by assumption)))))) (HY.out.in_ (by (repeat (first | exact In.refl _ | assumption | apply In.alloc | apply In.drewN | apply In.drew | (refine In.step ?_ (by assumption))))))).mono ?_
  rintro _ w_1 ⟨rfl, hb_1⟩
  have i_1 : In w.heap.size w w_1 := In.step (by (repeat (first | exact In.refl _ | assumption | apply In.alloc | apply In.drewN | apply In.drew | (refine In.step ?_ (by assumption))))) hb_1
  have k_1_A : Blk w_1 b_A 43 #[.slice A n cap, .int .i64 a, .int .i64 b, .int .i64 c, .int .i64 d, .int .i64 e, .int .i64 f] := Blk.step (by (with_reducible (repeat (first | assumption | exact Blk.new' (by simp) | apply Blk.drewN | apply Blk.drew | apply Blk.alloc | (refine Blk.far ?_ (by (try simp) <;> omega) _))))) hb_1
  obtain ⟨c_1_A_0, c_1_A_1, c_1_A_2, c_1_A_3, c_1_A_4, c_1_A_5, c_1_A_6⟩ := cells7 k_1_A
  have l_1_A := k_1_A.lt
  have k_1_B : Blk w_1 b_B 43 #[.slice B n d9, .int .i64 a, .int .i64 b, .int .i64 c, .int .i64 d, .int .i64 e, .int .i64 f] := Blk.step (by (with_reducible (repeat (first | assumption | exact Blk.new' (by simp) | apply Blk.drewN | apply Blk.drew | apply Blk.alloc | (refine Blk.far ?_ (by (try simp) <;> omega) _))))) hb_1
  obtain ⟨c_1_B_0, c_1_B_1, c_1_B_2, c_1_B_3, c_1_B_4, c_1_B_5, c_1_B_6⟩ := cells7 k_1_B
  have l_1_B := k_1_B.lt
  clear i_0 k_0_A c_0_A_0 c_0_A_1 c_0_A_2 c_0_A_3 c_0_A_4 c_0_A_5 c_0_A_6 l_0_A k_0_B c_0_B_0 c_0_B_1 c_0_B_2 c_0_B_3 c_0_B_4 c_0_B_5 c_0_B_6 l_0_B hb_0
  go_wp2_with fail
  refine (eqRack_c a b c _).mono ?_
  rintro _ w_2 ⟨rfl, hb_2⟩
  have i_2 : In w.heap.size w w_2 := In.step (by (repeat (first | exact In.refl _ | assumption | apply In.alloc | apply In.drewN | apply In.drew | (refine In.step ?_ (by assumption))))) hb_2
  have k_2_A : Blk w_2 b_A 43 #[.slice A n cap, .int .i64 a, .int .i64 b, .int .i64 c, .int .i64 d, .int .i64 e, .int .i64 f] := Blk.step (by (with_reducible (repeat (first | assumption | exact Blk.new' (by simp) | apply Blk.drewN | apply Blk.drew | apply Blk.alloc | (refine Blk.far ?_ (by (try simp) <;> omega) _))))) hb_2
  obtain ⟨c_2_A_0, c_2_A_1, c_2_A_2, c_2_A_3, c_2_A_4, c_2_A_5, c_2_A_6⟩ := cells7 k_2_A
  have l_2_A := k_2_A.lt
  have k_2_B : Blk w_2 b_B 43 #[.slice B n d9, .int .i64 a, .int .i64 b, .int .i64 c, .int .i64 d, .int .i64 e, .int .i64 f] := Blk.step (by (with_reducible (repeat (first | assumption | exact Blk.new' (by simp) | apply Blk.drewN | apply Blk.drew | apply Blk.alloc | (refine Blk.far ?_ (by (try simp) <;> omega) _))))) hb_2
  obtain ⟨c_2_B_0, c_2_B_1, c_2_B_2, c_2_B_3, c_2_B_4, c_2_B_5, c_2_B_6⟩ := cells7 k_2_B
  have l_2_B := k_2_B.lt
  clear i_1 k_1_A c_1_A_0 c_1_A_1 c_1_A_2 c_1_A_3 c_1_A_4 c_1_A_5 c_1_A_6 l_1_A k_1_B c_1_B_0 c_1_B_1 c_1_B_2 c_1_B_3 c_1_B_4 c_1_B_5 c_1_B_6 l_1_B hb_1
  go_wp2
  go_ret
  exact Val.mk' (rfl) (by (repeat (first | exact In.refl _ | assumption | apply In.alloc | apply In.drewN | apply In.drew | (refine In.step ?_ (by assumption)))))
theorem markBook_w (g n cap : Nat) (xs : List EventR) (a b c d e f : Int) (k : Nat) (w : World) (hn : (n : Int) ≤ 1048576) (hk : (k : Int) ≤ 10000000) (ho : OCEvent w g n cap xs) :
    Calls Try.prog 46 #[.agg #[.slice (some ⟨g, 0, none⟩) n cap, .int .i64 a, .int .i64 b, .int .i64 c, .int .i64 d, .int .i64 e, .int .i64 f], .int .i64 (k : Int)] w (MarkedOEvent g k n cap w) := by
  have HX := Lib.hid (markEventS_o g n cap k xs _ hn hk (ho.alloc (.cells #[.slice (some ⟨g, 0, none⟩) n cap, .int .i64 a, .int .i64 b, .int .i64 c, .int .i64 d, .int .i64 e, .int .i64 f] 43)))
  have hg0 : w.grownBy (w.alloc (.cells #[.slice (some ⟨g, 0, none⟩) n cap, .int .i64 a, .int .i64 b, .int .i64 c, .int .i64 d, .int .i64 e, .int .i64 f] 43)) (some g) := only_alloc (only_refl _ _) _
  clear ho
  go_enter Try.func46, Try.ntmps46
  go_wp2_with fail
  refine HX.out.mono ?_
  rintro _ w1 ⟨rfl, ho, hg⟩
  have HO := Lib.hid ho
  have HG := Lib.hid (only_trans hg0 hg)
  clear ho hg hg0
  go_wp2
  go_ret
  exact ⟨ret_int rfl, HO.out, HG.out⟩
theorem heldBook_w (A : Option Addr) (n cap : Nat) (a b c d e f : Int) (k : Nat) (w : World) (hn : (n : Int) ≤ 1048576) (hk : (k : Int) ≤ 10000000) (hx : ReadsEvent w A n (marksEvent k n)) :
    Calls Try.prog 48 #[.agg #[.slice A n cap, .int .i64 a, .int .i64 b, .int .i64 c, .int .i64 d, .int .i64 e, .int .i64 f], .int .i64 (k : Int)] w (Val (.int .i64 ((k + 2 * n : Nat) : Int)) w) := by
  have HX := Lib.hid hx
  clear hx
  have hd : decide (((k + 2 * n : Nat) : Int) < 0) = false := by simp; omega
  have hd2 : decide ((k : Int) + (2 * n : Int) < 0) = false := by simp; omega
  go_enter Try.func48, Try.ntmps48
  go_wp2_with fail
  refine (heldEventS_o A n cap k _ hn hk (HX.out.in_ (by (repeat (first | exact In.refl _ | assumption | apply In.alloc | apply In.drewN | apply In.drew | (refine In.step ?_ (by assumption))))))).mono ?_
  rintro _ w1 ⟨rfl, hb1⟩
  go_wp2
  go_ret
  exact Val.mk' rfl (by (repeat (first | exact In.refl _ | assumption | apply In.alloc | apply In.drewN | apply In.drew | (refine In.step ?_ (by assumption)))))
end Go.Proofs.Ytmcfghklfkmfkaa
