/- Chapter 36: canTake, FirstMissing, TakeFor of the program. -/
import Derived.Test.YthadanmiomeehaaD36
import Derived.IntWalk
import Derived.Lib.SliceRun
import Derived.Lib.LazyBuf
namespace Go.Proofs.Ythadanmiomeehaa
open Go.ChangeShapes Go.WideShapes Go.ChangeAt Go.RowKit
set_option linter.unusedVariables false
set_option linter.unusedSimpArgs false
set_option maxHeartbeats 2000000

def amV (a b c f : Int) : List Int := [f, partV f a, partV f b, partV f c]
def canB (n : Nat) (xs : List Int) (a b c f : Int) : Bool := stB n xs && (dOk a b c && inB f 0 1000000)
def lessP (xs am : List Int) (i : Nat) : Bool := decide (xs.getD i 0 < am.getD i 0)
def fmV (n : Nat) (xs : List Int) (a b c f : Int) : Int := if canB n xs a b c f then fstP (lessP xs (amV a b c f)) 4 else -1
theorem can_at {n : Nat} {xs : List Int} {a b c f : Int} (h : canB n xs a b c f = true) : n = 4 ∧ (∀ i, i < n → 0 ≤ xs.getD i 0 ∧ xs.getD i 0 ≤ 1000000) ∧ dOk a b c = true ∧ 0 ≤ f ∧ f ≤ 1000000 := by
  simp only [canB, Bool.and_eq_true] at h
  obtain ⟨h1, h2, h3⟩ := h
  have := st_at h1
  have h4 := inB_tt h3
  exact ⟨this.1, this.2, h2, h4.1, h4.2⟩
theorem amV_in {a b c f : Int} (hd : dOk a b c = true) (hf : 0 ≤ f) (hf' : f ≤ 1000000) (i : Nat) : 0 ≤ (amV a b c f).getD i 0 ∧ (amV a b c f).getD i 0 ≤ 10000000 := by
  simp only [dOk, decide_eq_true_eq] at hd
  have hp : ∀ p, 0 ≤ p → p ≤ 2000 → 0 ≤ partV f p ∧ partV f p ≤ 10000000 := fun p h1 h2 => by
    unfold partV
    rw [if_pos (by omega)]
    have hm := mul_in hf hf' h1 h2
    have ht := tdiv_in (a := f * p + 500) (b := 1000) (by omega) (by omega)
    rw [Int.tdiv_eq_ediv_of_nonneg (by omega)] at *
    omega
  have h1 := hp a (by omega) (by omega)
  have h2 := hp b (by omega) (by omega)
  have h3 := hp c (by omega) (by omega)
  match i with
  | 0 => simp [amV]; omega
  | 1 => simpa [amV] using h1
  | 2 => simpa [amV] using h2
  | 3 => simpa [amV] using h3
  | n + 4 => simp [amV]
theorem neg_less (xs am : List Int) (n : Nat) : fstP (negP (subTo n xs am n)) n = fstP (lessP xs am) n := by
  refine fstP_congr fun i hi => ?_
  unfold negP lessP
  rw [subTo_at _ _ _ _ _ hi, if_pos hi]
  have : (xs.getD i 0 - am.getD i 0 < 0) ↔ (xs.getD i 0 < am.getD i 0) := by omega
  simp only [this]
theorem sAm (a b c f : Int) (hd : dOk a b c = true) (hf : 0 ≤ f) (hf' : f ≤ 1000000) (w : World) : Calls Try.prog 39 #[.agg #[.int .i64 a, .int .i64 b, .int .i64 c], .int .i64 f] w (fun e w' => ∃ g, e = .returned (.slice (some ⟨g, 0, none⟩) 4 4) ∧ OwnC w' g 4 4 (amV a b c f) ∧ w.heap.size ≤ g ∧ Below w.heap.size w w') := by
  refine (sAmounts_yes a b c f hd hf hf' w).mono ?_
  rintro e w' ⟨g, rfl, ho, hb⟩
  obtain ⟨g2, c2, hv, hg, ho2⟩ := ownC_of ho (by simp)
  injection hv with h1 h2 h3
  injection h1 with h1
  injection h1 with h1
  subst h1 h3
  exact ⟨g, rfl, ho2, hg, hb⟩
theorem iAm (a b c f : Int) (hd : dOk a b c = true) (hf : 0 ≤ f) (hf' : f ≤ 1000000) (w : World) : Calls Try.prog 43 #[.agg #[.int .i64 a, .int .i64 b, .int .i64 c], .int .i64 f] w (fun e w' => ∃ g, e = .returned (.slice (some ⟨g, 0, none⟩) 4 4) ∧ OwnC w' g 4 4 (amV a b c f) ∧ w.heap.size ≤ g ∧ Below w.heap.size w w') := by
  refine (iAmounts_yes a b c f hd hf hf' w).mono ?_
  rintro e w' ⟨g, rfl, ho, hb⟩
  obtain ⟨g2, c2, hv, hg, ho2⟩ := ownC_of ho (by simp)
  injection hv with h1 h2 h3
  injection h1 with h1
  injection h1 with h1
  subst h1 h3
  exact ⟨g, rfl, ho2, hg, hb⟩
theorem rowStV_of {w w' : World} {g c n : Nat} {xs : List Int} {v : Value} (hl : xs.length = n) (ho : OwnC w' g n c xs) (hg : w.heap.size ≤ g) (hb : Below w.heap.size w w') : RowStV xs v w (.returned (.tuple #[.agg #[.slice (some ⟨g, 0, none⟩) n c], v])) w' := by subst hl; exact ⟨g, c, rfl, ho, hg, hb⟩
theorem icanTake (A : Option Addr) (n cap : Nat) (xs : List Int) (a b c f : Int) (w : World) (hn : n ≤ maxLen) (hx : ReadsI w A n xs) : Calls Try.prog 40 #[.agg #[.slice A n cap], .agg #[.int .i64 a, .int .i64 b, .int .i64 c], .int .i64 f] w (Val (.bool (canB n xs a b c f)) w) := by
  have hnq := fun (w : World) (a : Option Addr) (l c : Nat) => run_neq_slice_nil (P := Try.prog) w 22 3 a l c Try.underlying22
  have HX := Lib.hid hx
  clear hx
  obtain ⟨b_A, hbx_A⟩ : ∃ b, b = w.heap.size := ⟨_, rfl⟩
  have kk_A : Blk ((w.alloc (.cells #[.slice A n cap] 27)).alloc (.cells #[.int .i64 a, .int .i64 b, .int .i64 c] 35)) b_A 27 #[.slice A n cap] := ((Blk.new' (w := w) (t := 27) (cs := #[.slice A n cap]) (g := b_A) (by simp [hbx_A])).alloc (.cells #[.int .i64 a, .int .i64 b, .int .i64 c] 35))
  have hwb_A : w.heap.size ≤ b_A := by omega
  obtain ⟨b_D, hbx_D⟩ : ∃ b, b = w.heap.size + 1 := ⟨_, rfl⟩
  have kk_D : Blk ((w.alloc (.cells #[.slice A n cap] 27)).alloc (.cells #[.int .i64 a, .int .i64 b, .int .i64 c] 35)) b_D 35 #[.int .i64 a, .int .i64 b, .int .i64 c] := (Blk.new' (w := (w.alloc (.cells #[.slice A n cap] 27))) (t := 35) (cs := #[.int .i64 a, .int .i64 b, .int .i64 c]) (g := b_D) (by simp [hbx_D]))
  have hwb_D : w.heap.size ≤ b_D := by omega
  have NB_A_D : Hid (b_A ≠ b_D) := Lib.hid (by omega)
  have hb_0 : Below w.heap.size w ((w.alloc (.cells #[.slice A n cap] 27)).alloc (.cells #[.int .i64 a, .int .i64 b, .int .i64 c] 35)) := by
    have h : In w.heap.size w ((w.alloc (.cells #[.slice A n cap] 27)).alloc (.cells #[.int .i64 a, .int .i64 b, .int .i64 c] 35)) := by (repeat (first | exact In.refl _ | assumption | apply In.alloc | apply In.drewN | apply In.drew | (refine In.step ?_ (by assumption))))
    exact h.below
  go_enter Try.func40, Try.ntmps40
  go_wp2_with fail
  rw [← hbx_D]
  clear hbx_D
  rw [← hbx_A]
  clear hbx_A
  generalize ((w.alloc (.cells #[.slice A n cap] 27)).alloc (.cells #[.int .i64 a, .int .i64 b, .int .i64 c] 35)) = w_0 at *
  have i_0 : In w.heap.size w w_0 := In.step (by (repeat (first | exact In.refl _ | assumption | apply In.alloc | apply In.drewN | apply In.drew | (refine In.step ?_ (by assumption))))) hb_0
  have k_0_A : Blk w_0 b_A 27 #[.slice A n cap] := kk_A
  have c_0_A_0 : w_0.cell? ⟨b_A, 0, none⟩ = some (.slice A n cap) := k_0_A.cell 0
  have l_0_A := k_0_A.lt
  have k_0_D : Blk w_0 b_D 35 #[.int .i64 a, .int .i64 b, .int .i64 c] := kk_D
  have c_0_D_0 : w_0.cell? ⟨b_D, 0, none⟩ = some (.int .i64 a) := k_0_D.cell 0
  have c_0_D_1 : w_0.cell? ⟨b_D, 1, none⟩ = some (.int .i64 b) := k_0_D.cell 1
  have c_0_D_2 : w_0.cell? ⟨b_D, 2, none⟩ = some (.int .i64 c) := k_0_D.cell 2
  have l_0_D := k_0_D.lt
  clear kk_A kk_D
  go_wp2_with fail
  refine (iStoreOk A n cap xs _ hn (HX.out.below (In.below (by (repeat (first | exact In.refl _ | assumption | apply In.alloc | apply In.drewN | apply In.drew | (refine In.step ?_ (by assumption)))))) (Nat.le_refl _))).mono ?_
  rintro _ w_1 ⟨rfl, hb_1⟩
  have i_1 : In w.heap.size w w_1 := In.step (by (repeat (first | exact In.refl _ | assumption | apply In.alloc | apply In.drewN | apply In.drew | (refine In.step ?_ (by assumption))))) hb_1
  have k_1_A : Blk w_1 b_A 27 #[.slice A n cap] := Blk.step (by (with_reducible (repeat (first | assumption | exact Blk.new' (by simp) | apply Blk.drewN | apply Blk.drew | apply Blk.alloc | (refine Blk.far ?_ (by (try simp) <;> omega) _))))) hb_1
  have c_1_A_0 : w_1.cell? ⟨b_A, 0, none⟩ = some (.slice A n cap) := k_1_A.cell 0
  have l_1_A := k_1_A.lt
  have k_1_D : Blk w_1 b_D 35 #[.int .i64 a, .int .i64 b, .int .i64 c] := Blk.step (by (with_reducible (repeat (first | assumption | exact Blk.new' (by simp) | apply Blk.drewN | apply Blk.drew | apply Blk.alloc | (refine Blk.far ?_ (by (try simp) <;> omega) _))))) hb_1
  have c_1_D_0 : w_1.cell? ⟨b_D, 0, none⟩ = some (.int .i64 a) := k_1_D.cell 0
  have c_1_D_1 : w_1.cell? ⟨b_D, 1, none⟩ = some (.int .i64 b) := k_1_D.cell 1
  have c_1_D_2 : w_1.cell? ⟨b_D, 2, none⟩ = some (.int .i64 c) := k_1_D.cell 2
  have l_1_D := k_1_D.lt
  clear i_0 k_0_A c_0_A_0 l_0_A k_0_D c_0_D_0 c_0_D_1 c_0_D_2 l_0_D hb_0
  cases h1 : stB n xs
  · have HV : Hid (canB n xs a b c f = false) := Lib.hid (by simp [canB, h1])
    go_wp2
    go_ret
    exact Val.mk' (v_bool HV.out.symm) (by (repeat (first | exact In.refl _ | assumption | apply In.alloc | apply In.drewN | apply In.drew | (refine In.step ?_ (by assumption)))))
  by_cases h2 : dOk a b c = true ∧ 0 ≤ f ∧ f ≤ 1000000
  · have HV : Hid (canB n xs a b c f = true) := Lib.hid (by simp [canB, h1, h2.1, inB_t h2.2])
    go_wp2_with fail
    refine (iAm a b c f h2.1 h2.2.1 h2.2.2 _).mono ?_
    rintro _ w_2 ⟨g_2, rfl, _, _, hb_2⟩
    have i_2 : In w.heap.size w w_2 := In.step (by (repeat (first | exact In.refl _ | assumption | apply In.alloc | apply In.drewN | apply In.drew | (refine In.step ?_ (by assumption))))) hb_2
    have k_2_A : Blk w_2 b_A 27 #[.slice A n cap] := Blk.step (by (with_reducible (repeat (first | assumption | exact Blk.new' (by simp) | apply Blk.drewN | apply Blk.drew | apply Blk.alloc | (refine Blk.far ?_ (by (try simp) <;> omega) _))))) hb_2
    have c_2_A_0 : w_2.cell? ⟨b_A, 0, none⟩ = some (.slice A n cap) := k_2_A.cell 0
    have l_2_A := k_2_A.lt
    have k_2_D : Blk w_2 b_D 35 #[.int .i64 a, .int .i64 b, .int .i64 c] := Blk.step (by (with_reducible (repeat (first | assumption | exact Blk.new' (by simp) | apply Blk.drewN | apply Blk.drew | apply Blk.alloc | (refine Blk.far ?_ (by (try simp) <;> omega) _))))) hb_2
    have c_2_D_0 : w_2.cell? ⟨b_D, 0, none⟩ = some (.int .i64 a) := k_2_D.cell 0
    have c_2_D_1 : w_2.cell? ⟨b_D, 1, none⟩ = some (.int .i64 b) := k_2_D.cell 1
    have c_2_D_2 : w_2.cell? ⟨b_D, 2, none⟩ = some (.int .i64 c) := k_2_D.cell 2
    have l_2_D := k_2_D.lt
    clear i_1 k_1_A c_1_A_0 l_1_A k_1_D c_1_D_0 c_1_D_1 c_1_D_2 l_1_D hb_1
    go_wp2
    go_ret
    exact Val.mk' (v_bool HV.out.symm) (by (repeat (first | exact In.refl _ | assumption | apply In.alloc | apply In.drewN | apply In.drew | (refine In.step ?_ (by assumption)))))
  · have HV : Hid (canB n xs a b c f = false) := Lib.hid (by
      cases hc : canB n xs a b c f
      · rfl
      · exact absurd (can_at hc).2.2 h2)
    go_wp2_with fail
    refine (iAmounts_no a b c f h2 _).mono ?_
    rintro _ w_2 ⟨rfl, hb_2⟩
    have i_2 : In w.heap.size w w_2 := In.step (by (repeat (first | exact In.refl _ | assumption | apply In.alloc | apply In.drewN | apply In.drew | (refine In.step ?_ (by assumption))))) hb_2
    have k_2_A : Blk w_2 b_A 27 #[.slice A n cap] := Blk.step (by (with_reducible (repeat (first | assumption | exact Blk.new' (by simp) | apply Blk.drewN | apply Blk.drew | apply Blk.alloc | (refine Blk.far ?_ (by (try simp) <;> omega) _))))) hb_2
    have c_2_A_0 : w_2.cell? ⟨b_A, 0, none⟩ = some (.slice A n cap) := k_2_A.cell 0
    have l_2_A := k_2_A.lt
    have k_2_D : Blk w_2 b_D 35 #[.int .i64 a, .int .i64 b, .int .i64 c] := Blk.step (by (with_reducible (repeat (first | assumption | exact Blk.new' (by simp) | apply Blk.drewN | apply Blk.drew | apply Blk.alloc | (refine Blk.far ?_ (by (try simp) <;> omega) _))))) hb_2
    have c_2_D_0 : w_2.cell? ⟨b_D, 0, none⟩ = some (.int .i64 a) := k_2_D.cell 0
    have c_2_D_1 : w_2.cell? ⟨b_D, 1, none⟩ = some (.int .i64 b) := k_2_D.cell 1
    have c_2_D_2 : w_2.cell? ⟨b_D, 2, none⟩ = some (.int .i64 c) := k_2_D.cell 2
    have l_2_D := k_2_D.lt
    clear i_1 k_1_A c_1_A_0 l_1_A k_1_D c_1_D_0 c_1_D_1 c_1_D_2 l_1_D hb_1
    go_wp2
    go_ret
    exact Val.mk' (v_bool HV.out.symm) (by (repeat (first | exact In.refl _ | assumption | apply In.alloc | apply In.drewN | apply In.drew | (refine In.step ?_ (by assumption)))))
theorem iFirstMissing (ad : Addr) (n cap : Nat) (xs : List Int) (a b c f : Int) (w : World) (hn : n ≤ 10000000) (hx : ReadsI w (some ad) n xs) : Calls Try.prog 22 #[.agg #[.slice (some ad) n cap], .agg #[.int .i64 a, .int .i64 b, .int .i64 c], .int .i64 f] w (Val (.int .i64 (fmV n xs a b c f)) w) := by
  have HX := Lib.hid hx
  have hlen := hx.1
  clear hx
  obtain ⟨b_A, hbx_A⟩ : ∃ b, b = w.heap.size := ⟨_, rfl⟩
  have kk_A : Blk ((w.alloc (.cells #[.slice (some ad) n cap] 27)).alloc (.cells #[.int .i64 a, .int .i64 b, .int .i64 c] 35)) b_A 27 #[.slice (some ad) n cap] := ((Blk.new' (w := w) (t := 27) (cs := #[.slice (some ad) n cap]) (g := b_A) (by simp [hbx_A])).alloc (.cells #[.int .i64 a, .int .i64 b, .int .i64 c] 35))
  have hwb_A : w.heap.size ≤ b_A := by omega
  obtain ⟨b_D, hbx_D⟩ : ∃ b, b = w.heap.size + 1 := ⟨_, rfl⟩
  have kk_D : Blk ((w.alloc (.cells #[.slice (some ad) n cap] 27)).alloc (.cells #[.int .i64 a, .int .i64 b, .int .i64 c] 35)) b_D 35 #[.int .i64 a, .int .i64 b, .int .i64 c] := (Blk.new' (w := (w.alloc (.cells #[.slice (some ad) n cap] 27))) (t := 35) (cs := #[.int .i64 a, .int .i64 b, .int .i64 c]) (g := b_D) (by simp [hbx_D]))
  have hwb_D : w.heap.size ≤ b_D := by omega
  have NB_A_D : Hid (b_A ≠ b_D) := Lib.hid (by omega)
  have hb_0 : Below w.heap.size w ((w.alloc (.cells #[.slice (some ad) n cap] 27)).alloc (.cells #[.int .i64 a, .int .i64 b, .int .i64 c] 35)) := by
    have h : In w.heap.size w ((w.alloc (.cells #[.slice (some ad) n cap] 27)).alloc (.cells #[.int .i64 a, .int .i64 b, .int .i64 c] 35)) := by (repeat (first | exact In.refl _ | assumption | apply In.alloc | apply In.drewN | apply In.drew | (refine In.step ?_ (by assumption))))
    exact h.below
  go_enter Try.func22, Try.ntmps22
  go_wp2_with fail
  rw [← hbx_D]
  clear hbx_D
  rw [← hbx_A]
  clear hbx_A
  generalize ((w.alloc (.cells #[.slice (some ad) n cap] 27)).alloc (.cells #[.int .i64 a, .int .i64 b, .int .i64 c] 35)) = w_0 at *
  have i_0 : In w.heap.size w w_0 := In.step (by (repeat (first | exact In.refl _ | assumption | apply In.alloc | apply In.drewN | apply In.drew | (refine In.step ?_ (by assumption))))) hb_0
  have k_0_A : Blk w_0 b_A 27 #[.slice (some ad) n cap] := kk_A
  have c_0_A_0 : w_0.cell? ⟨b_A, 0, none⟩ = some (.slice (some ad) n cap) := k_0_A.cell 0
  have l_0_A := k_0_A.lt
  have k_0_D : Blk w_0 b_D 35 #[.int .i64 a, .int .i64 b, .int .i64 c] := kk_D
  have c_0_D_0 : w_0.cell? ⟨b_D, 0, none⟩ = some (.int .i64 a) := k_0_D.cell 0
  have c_0_D_1 : w_0.cell? ⟨b_D, 1, none⟩ = some (.int .i64 b) := k_0_D.cell 1
  have c_0_D_2 : w_0.cell? ⟨b_D, 2, none⟩ = some (.int .i64 c) := k_0_D.cell 2
  have l_0_D := k_0_D.lt
  clear kk_A kk_D
  go_wp2_with fail
  refine (icanTake (some ad) n cap xs a b c f _ (by unfold maxLen; omega) (HX.out.below (In.below (by (repeat (first | exact In.refl _ | assumption | apply In.alloc | apply In.drewN | apply In.drew | (refine In.step ?_ (by assumption)))))) (Nat.le_refl _))).mono ?_
  rintro _ w_1 ⟨rfl, hb_1⟩
  have i_1 : In w.heap.size w w_1 := In.step (by (repeat (first | exact In.refl _ | assumption | apply In.alloc | apply In.drewN | apply In.drew | (refine In.step ?_ (by assumption))))) hb_1
  have k_1_A : Blk w_1 b_A 27 #[.slice (some ad) n cap] := Blk.step (by (with_reducible (repeat (first | assumption | exact Blk.new' (by simp) | apply Blk.drewN | apply Blk.drew | apply Blk.alloc | (refine Blk.far ?_ (by (try simp) <;> omega) _))))) hb_1
  have c_1_A_0 : w_1.cell? ⟨b_A, 0, none⟩ = some (.slice (some ad) n cap) := k_1_A.cell 0
  have l_1_A := k_1_A.lt
  have k_1_D : Blk w_1 b_D 35 #[.int .i64 a, .int .i64 b, .int .i64 c] := Blk.step (by (with_reducible (repeat (first | assumption | exact Blk.new' (by simp) | apply Blk.drewN | apply Blk.drew | apply Blk.alloc | (refine Blk.far ?_ (by (try simp) <;> omega) _))))) hb_1
  have c_1_D_0 : w_1.cell? ⟨b_D, 0, none⟩ = some (.int .i64 a) := k_1_D.cell 0
  have c_1_D_1 : w_1.cell? ⟨b_D, 1, none⟩ = some (.int .i64 b) := k_1_D.cell 1
  have c_1_D_2 : w_1.cell? ⟨b_D, 2, none⟩ = some (.int .i64 c) := k_1_D.cell 2
  have l_1_D := k_1_D.lt
  clear i_0 k_0_A c_0_A_0 l_0_A k_0_D c_0_D_0 c_0_D_1 c_0_D_2 l_0_D hb_0
  cases h1 : canB n xs a b c f
  · have HV : Hid (fmV n xs a b c f = -1) := Lib.hid (by simp [fmV, h1])
    go_wp2
    go_ret
    exact Val.mk' (v_int HV.out.symm) (by (repeat (first | exact In.refl _ | assumption | apply In.alloc | apply In.drewN | apply In.drew | (refine In.step ?_ (by assumption)))))
  obtain ⟨rfl, hs, hd, hf, hf2⟩ := can_at h1
  have HV : Hid (fmV 4 xs a b c f = fstP (lessP xs (amV a b c f)) 4) := Lib.hid (by simp [fmV, h1])
  have HS := Lib.hid hs
  have HAM := Lib.hid (fun i => amV_in (i := i) hd hf hf2)
  clear hs
  go_wp2_with fail
  refine (itaking ad 4 cap xs _ (by omega) (HX.out.below (In.below (by (repeat (first | exact In.refl _ | assumption | apply In.alloc | apply In.drewN | apply In.drew | (refine In.step ?_ (by assumption)))))) (Nat.le_refl _))).mono ?_
  rintro _ w_2 ⟨g_2, c_2, b_T, rfl, ho_2, hg_2, kk_T, hT_2, hb_2⟩
  rw [hlen] at ho_2 kk_T
  rw [hlen]
  have hwb_T : w.heap.size ≤ b_T := by have h1 := hT_2; (try simp at h1); have h2 := In.size i_1; omega
  have NB_A_T : Hid (b_A ≠ b_T) := Lib.hid (by have h1 := hT_2; (try simp at h1); have h2 := k_1_A.lt; omega)
  have NB_D_T : Hid (b_D ≠ b_T) := Lib.hid (by have h1 := hT_2; (try simp at h1); have h2 := k_1_D.lt; omega)
  have GX_L : Hid (w.heap.size ≤ g_2) := Lib.hid (by have h1 := hg_2; (try simp at h1); have h2 := In.size i_1; omega)
  have o_2_L : OwnC w_2 g_2 4 c_2 xs := ho_2
  clear ho_2 hg_2 hT_2
  have i_2 : In w.heap.size w w_2 := In.step (by (repeat (first | exact In.refl _ | assumption | apply In.alloc | apply In.drewN | apply In.drew | (refine In.step ?_ (by assumption))))) hb_2
  have k_2_A : Blk w_2 b_A 27 #[.slice (some ad) 4 cap] := Blk.step (by (with_reducible (repeat (first | assumption | exact Blk.new' (by simp) | apply Blk.drewN | apply Blk.drew | apply Blk.alloc | (refine Blk.far ?_ (by (try simp) <;> omega) _))))) hb_2
  have c_2_A_0 : w_2.cell? ⟨b_A, 0, none⟩ = some (.slice (some ad) 4 cap) := k_2_A.cell 0
  have l_2_A := k_2_A.lt
  have k_2_D : Blk w_2 b_D 35 #[.int .i64 a, .int .i64 b, .int .i64 c] := Blk.step (by (with_reducible (repeat (first | assumption | exact Blk.new' (by simp) | apply Blk.drewN | apply Blk.drew | apply Blk.alloc | (refine Blk.far ?_ (by (try simp) <;> omega) _))))) hb_2
  have c_2_D_0 : w_2.cell? ⟨b_D, 0, none⟩ = some (.int .i64 a) := k_2_D.cell 0
  have c_2_D_1 : w_2.cell? ⟨b_D, 1, none⟩ = some (.int .i64 b) := k_2_D.cell 1
  have c_2_D_2 : w_2.cell? ⟨b_D, 2, none⟩ = some (.int .i64 c) := k_2_D.cell 2
  have l_2_D := k_2_D.lt
  have k_2_T : Blk w_2 b_T 27 #[.slice (some ⟨g_2, 0, none⟩) 4 c_2] := kk_T
  have c_2_T_0 : w_2.cell? ⟨b_T, 0, none⟩ = some (.slice (some ⟨g_2, 0, none⟩) 4 c_2) := k_2_T.cell 0
  have l_2_T := k_2_T.lt
  clear i_1 k_1_A c_1_A_0 l_1_A k_1_D c_1_D_0 c_1_D_1 c_1_D_2 l_1_D hb_1
  clear kk_T
  go_wp2_with fail
  obtain ⟨b_L, hbx_L⟩ : ∃ b, b = w_2.heap.size := ⟨_, rfl⟩
  rw [← hbx_L]
  have hwb_L : w.heap.size ≤ b_L := by have h := In.size i_2; omega
  have NB_A_L : Hid (b_A ≠ b_L) := Lib.hid (by have h := k_2_A.lt; omega)
  have NB_D_L : Hid (b_D ≠ b_L) := Lib.hid (by have h := k_2_D.lt; omega)
  have NB_T_L : Hid (b_T ≠ b_L) := Lib.hid (by have h := k_2_T.lt; omega)
  have hb_3 : Below w_2.heap.size w_2 (w_2.alloc (.cells #[.slice (some ⟨g_2, 0, none⟩) 4 c_2] 27)) := (Below.refl _ _).alloc (Nat.le_refl _) _
  have kk_3 : Blk (w_2.alloc (.cells #[.slice (some ⟨g_2, 0, none⟩) 4 c_2] 27)) b_L 27 #[.slice (some ⟨g_2, 0, none⟩) 4 c_2] := Blk.new' hbx_L
  clear hbx_L
  generalize (w_2.alloc (.cells #[.slice (some ⟨g_2, 0, none⟩) 4 c_2] 27)) = w_3 at *
  have i_3 : In w.heap.size w w_3 := In.step (by (repeat (first | exact In.refl _ | assumption | apply In.alloc | apply In.drewN | apply In.drew | (refine In.step ?_ (by assumption))))) hb_3
  have k_3_A : Blk w_3 b_A 27 #[.slice (some ad) 4 cap] := Blk.step (by (with_reducible (repeat (first | assumption | exact Blk.new' (by simp) | apply Blk.drewN | apply Blk.drew | apply Blk.alloc | (refine Blk.far ?_ (by (try simp) <;> omega) _))))) hb_3
  have c_3_A_0 : w_3.cell? ⟨b_A, 0, none⟩ = some (.slice (some ad) 4 cap) := k_3_A.cell 0
  have l_3_A := k_3_A.lt
  have k_3_D : Blk w_3 b_D 35 #[.int .i64 a, .int .i64 b, .int .i64 c] := Blk.step (by (with_reducible (repeat (first | assumption | exact Blk.new' (by simp) | apply Blk.drewN | apply Blk.drew | apply Blk.alloc | (refine Blk.far ?_ (by (try simp) <;> omega) _))))) hb_3
  have c_3_D_0 : w_3.cell? ⟨b_D, 0, none⟩ = some (.int .i64 a) := k_3_D.cell 0
  have c_3_D_1 : w_3.cell? ⟨b_D, 1, none⟩ = some (.int .i64 b) := k_3_D.cell 1
  have c_3_D_2 : w_3.cell? ⟨b_D, 2, none⟩ = some (.int .i64 c) := k_3_D.cell 2
  have l_3_D := k_3_D.lt
  have k_3_T : Blk w_3 b_T 27 #[.slice (some ⟨g_2, 0, none⟩) 4 c_2] := Blk.step (by (with_reducible (repeat (first | assumption | exact Blk.new' (by simp) | apply Blk.drewN | apply Blk.drew | apply Blk.alloc | (refine Blk.far ?_ (by (try simp) <;> omega) _))))) hb_3
  have c_3_T_0 : w_3.cell? ⟨b_T, 0, none⟩ = some (.slice (some ⟨g_2, 0, none⟩) 4 c_2) := k_3_T.cell 0
  have l_3_T := k_3_T.lt
  have k_3_L : Blk w_3 b_L 27 #[.slice (some ⟨g_2, 0, none⟩) 4 c_2] := kk_3
  have c_3_L_0 : w_3.cell? ⟨b_L, 0, none⟩ = some (.slice (some ⟨g_2, 0, none⟩) 4 c_2) := k_3_L.cell 0
  have l_3_L := k_3_L.lt
  have o_3_L : OwnC w_3 g_2 (4) c_2 xs := OwnC.step (by (with_reducible (repeat (first | assumption | apply OwnC.drewN | apply OwnC.drew | apply OwnC.alloc)))) hb_3
  clear i_2 k_2_A c_2_A_0 l_2_A k_2_D c_2_D_0 c_2_D_1 c_2_D_2 l_2_D k_2_T c_2_T_0 l_2_T o_2_L hb_2
  clear kk_3
  go_wp2_with fail
  refine (iAm a b c f hd hf hf2 _).mono ?_
  rintro _ w_4 ⟨g_4, rfl, ho_4, hg_4, hb_4⟩
  have NE_L_M : Hid (g_2 ≠ g_4) := Lib.hid (by have h1 := hg_4; (try simp at h1); have h2 := OwnC.lt o_3_L; omega)
  have GX_M : Hid (w.heap.size ≤ g_4) := Lib.hid (by have h1 := hg_4; (try simp at h1); have h2 := In.size i_3; omega)
  have o_4_M : OwnC w_4 g_4 (4) 4 (amV a b c f) := ho_4
  clear ho_4 hg_4
  have i_4 : In w.heap.size w w_4 := In.step (by (repeat (first | exact In.refl _ | assumption | apply In.alloc | apply In.drewN | apply In.drew | (refine In.step ?_ (by assumption))))) hb_4
  have k_4_A : Blk w_4 b_A 27 #[.slice (some ad) 4 cap] := Blk.step (by (with_reducible (repeat (first | assumption | exact Blk.new' (by simp) | apply Blk.drewN | apply Blk.drew | apply Blk.alloc | (refine Blk.far ?_ (by (try simp) <;> omega) _))))) hb_4
  have c_4_A_0 : w_4.cell? ⟨b_A, 0, none⟩ = some (.slice (some ad) 4 cap) := k_4_A.cell 0
  have l_4_A := k_4_A.lt
  have k_4_D : Blk w_4 b_D 35 #[.int .i64 a, .int .i64 b, .int .i64 c] := Blk.step (by (with_reducible (repeat (first | assumption | exact Blk.new' (by simp) | apply Blk.drewN | apply Blk.drew | apply Blk.alloc | (refine Blk.far ?_ (by (try simp) <;> omega) _))))) hb_4
  have c_4_D_0 : w_4.cell? ⟨b_D, 0, none⟩ = some (.int .i64 a) := k_4_D.cell 0
  have c_4_D_1 : w_4.cell? ⟨b_D, 1, none⟩ = some (.int .i64 b) := k_4_D.cell 1
  have c_4_D_2 : w_4.cell? ⟨b_D, 2, none⟩ = some (.int .i64 c) := k_4_D.cell 2
  have l_4_D := k_4_D.lt
  have k_4_T : Blk w_4 b_T 27 #[.slice (some ⟨g_2, 0, none⟩) 4 c_2] := Blk.step (by (with_reducible (repeat (first | assumption | exact Blk.new' (by simp) | apply Blk.drewN | apply Blk.drew | apply Blk.alloc | (refine Blk.far ?_ (by (try simp) <;> omega) _))))) hb_4
  have c_4_T_0 : w_4.cell? ⟨b_T, 0, none⟩ = some (.slice (some ⟨g_2, 0, none⟩) 4 c_2) := k_4_T.cell 0
  have l_4_T := k_4_T.lt
  have k_4_L : Blk w_4 b_L 27 #[.slice (some ⟨g_2, 0, none⟩) 4 c_2] := Blk.step (by (with_reducible (repeat (first | assumption | exact Blk.new' (by simp) | apply Blk.drewN | apply Blk.drew | apply Blk.alloc | (refine Blk.far ?_ (by (try simp) <;> omega) _))))) hb_4
  have c_4_L_0 : w_4.cell? ⟨b_L, 0, none⟩ = some (.slice (some ⟨g_2, 0, none⟩) 4 c_2) := k_4_L.cell 0
  have l_4_L := k_4_L.lt
  have o_4_L : OwnC w_4 g_2 (4) c_2 xs := OwnC.step (by (with_reducible (repeat (first | assumption | apply OwnC.drewN | apply OwnC.drew | apply OwnC.alloc)))) hb_4
  clear i_3 k_3_A c_3_A_0 l_3_A k_3_D c_3_D_0 c_3_D_1 c_3_D_2 l_3_D k_3_T c_3_T_0 l_3_T k_3_L c_3_L_0 l_3_L o_3_L hb_3
  go_wp2_with fail
  refine (itake b_T g_2 4 c_2 g_4 4 xs (amV a b c f) _ (by omega) k_4_T o_4_L o_4_M.reads NE_L_M.out.symm (fun i hi => by have h1 := HS.out i hi; have h2 := HAM.out i; omega)).mono ?_
  rintro _ w_5 ⟨rfl, ho_5, hb_5⟩
  have o_5_L : OwnC w_5 g_2 (4) c_2 (subTo 4 xs (amV a b c f) 4) := ho_5
  clear ho_5
  have i_5 : In w.heap.size w w_5 := In.wide (by (repeat (first | exact In.refl _ | assumption | apply In.alloc | apply In.drewN | apply In.drew | (refine In.step ?_ (by assumption))))) (below_of_only hb_5 GX_L.out (In.size (B := w.heap.size) (a := w) (by (repeat (first | exact In.refl _ | assumption | apply In.alloc | apply In.drewN | apply In.drew | (refine In.step ?_ (by assumption)))))))
  have k_5_A : Blk w_5 b_A 27 #[.slice (some ad) 4 cap] := Blk.grown k_4_A hb_5 (fun h => (OwnC.ne o_4_L k_4_A (by decide)) (Option.some.inj h).symm)
  have c_5_A_0 : w_5.cell? ⟨b_A, 0, none⟩ = some (.slice (some ad) 4 cap) := k_5_A.cell 0
  have l_5_A := k_5_A.lt
  have k_5_D : Blk w_5 b_D 35 #[.int .i64 a, .int .i64 b, .int .i64 c] := Blk.grown k_4_D hb_5 (fun h => (OwnC.ne o_4_L k_4_D (by decide)) (Option.some.inj h).symm)
  have c_5_D_0 : w_5.cell? ⟨b_D, 0, none⟩ = some (.int .i64 a) := k_5_D.cell 0
  have c_5_D_1 : w_5.cell? ⟨b_D, 1, none⟩ = some (.int .i64 b) := k_5_D.cell 1
  have c_5_D_2 : w_5.cell? ⟨b_D, 2, none⟩ = some (.int .i64 c) := k_5_D.cell 2
  have l_5_D := k_5_D.lt
  have k_5_T : Blk w_5 b_T 27 #[.slice (some ⟨g_2, 0, none⟩) 4 c_2] := Blk.grown k_4_T hb_5 (fun h => (OwnC.ne o_4_L k_4_T (by decide)) (Option.some.inj h).symm)
  have c_5_T_0 : w_5.cell? ⟨b_T, 0, none⟩ = some (.slice (some ⟨g_2, 0, none⟩) 4 c_2) := k_5_T.cell 0
  have l_5_T := k_5_T.lt
  have k_5_L : Blk w_5 b_L 27 #[.slice (some ⟨g_2, 0, none⟩) 4 c_2] := Blk.grown k_4_L hb_5 (fun h => (OwnC.ne o_4_L k_4_L (by decide)) (Option.some.inj h).symm)
  have c_5_L_0 : w_5.cell? ⟨b_L, 0, none⟩ = some (.slice (some ⟨g_2, 0, none⟩) 4 c_2) := k_5_L.cell 0
  have l_5_L := k_5_L.lt
  have o_5_M : OwnC w_5 g_4 (4) 4 (amV a b c f) := OwnC.only (by (with_reducible (repeat (first | assumption | apply OwnC.drewN | apply OwnC.drew | apply OwnC.alloc)))) hb_5 (by first | exact NE_M_L.out | exact NE_L_M.out.symm)
  clear i_4 k_4_A c_4_A_0 l_4_A k_4_D c_4_D_0 c_4_D_1 c_4_D_2 l_4_D k_4_T c_4_T_0 l_4_T k_4_L c_4_L_0 l_4_L o_4_L o_4_M hb_4
  go_wp2_with fail
  refine (ifirstBelow (some ⟨g_2, 0, none⟩) 4 c_2 (subTo 4 xs (amV a b c f) 4) _ (by omega) o_5_L.reads).mono ?_
  rintro _ w_6 ⟨rfl, hb_6⟩
  rw [neg_less]
  have i_6 : In w.heap.size w w_6 := In.step (by (repeat (first | exact In.refl _ | assumption | apply In.alloc | apply In.drewN | apply In.drew | (refine In.step ?_ (by assumption))))) hb_6
  have k_6_A : Blk w_6 b_A 27 #[.slice (some ad) 4 cap] := Blk.step (by (with_reducible (repeat (first | assumption | exact Blk.new' (by simp) | apply Blk.drewN | apply Blk.drew | apply Blk.alloc | (refine Blk.far ?_ (by (try simp) <;> omega) _))))) hb_6
  have c_6_A_0 : w_6.cell? ⟨b_A, 0, none⟩ = some (.slice (some ad) 4 cap) := k_6_A.cell 0
  have l_6_A := k_6_A.lt
  have k_6_D : Blk w_6 b_D 35 #[.int .i64 a, .int .i64 b, .int .i64 c] := Blk.step (by (with_reducible (repeat (first | assumption | exact Blk.new' (by simp) | apply Blk.drewN | apply Blk.drew | apply Blk.alloc | (refine Blk.far ?_ (by (try simp) <;> omega) _))))) hb_6
  have c_6_D_0 : w_6.cell? ⟨b_D, 0, none⟩ = some (.int .i64 a) := k_6_D.cell 0
  have c_6_D_1 : w_6.cell? ⟨b_D, 1, none⟩ = some (.int .i64 b) := k_6_D.cell 1
  have c_6_D_2 : w_6.cell? ⟨b_D, 2, none⟩ = some (.int .i64 c) := k_6_D.cell 2
  have l_6_D := k_6_D.lt
  have k_6_T : Blk w_6 b_T 27 #[.slice (some ⟨g_2, 0, none⟩) 4 c_2] := Blk.step (by (with_reducible (repeat (first | assumption | exact Blk.new' (by simp) | apply Blk.drewN | apply Blk.drew | apply Blk.alloc | (refine Blk.far ?_ (by (try simp) <;> omega) _))))) hb_6
  have c_6_T_0 : w_6.cell? ⟨b_T, 0, none⟩ = some (.slice (some ⟨g_2, 0, none⟩) 4 c_2) := k_6_T.cell 0
  have l_6_T := k_6_T.lt
  have k_6_L : Blk w_6 b_L 27 #[.slice (some ⟨g_2, 0, none⟩) 4 c_2] := Blk.step (by (with_reducible (repeat (first | assumption | exact Blk.new' (by simp) | apply Blk.drewN | apply Blk.drew | apply Blk.alloc | (refine Blk.far ?_ (by (try simp) <;> omega) _))))) hb_6
  have c_6_L_0 : w_6.cell? ⟨b_L, 0, none⟩ = some (.slice (some ⟨g_2, 0, none⟩) 4 c_2) := k_6_L.cell 0
  have l_6_L := k_6_L.lt
  have o_6_L : OwnC w_6 g_2 (4) c_2 (subTo 4 xs (amV a b c f) 4) := OwnC.step (by (with_reducible (repeat (first | assumption | apply OwnC.drewN | apply OwnC.drew | apply OwnC.alloc)))) hb_6
  have o_6_M : OwnC w_6 g_4 (4) 4 (amV a b c f) := OwnC.step (by (with_reducible (repeat (first | assumption | apply OwnC.drewN | apply OwnC.drew | apply OwnC.alloc)))) hb_6
  clear i_5 k_5_A c_5_A_0 l_5_A k_5_D c_5_D_0 c_5_D_1 c_5_D_2 l_5_D k_5_T c_5_T_0 l_5_T k_5_L c_5_L_0 l_5_L o_5_L o_5_M hb_5
  go_wp2
  go_ret
  exact Val.mk' (v_int HV.out.symm) (by (repeat (first | exact In.refl _ | assumption | apply In.alloc | apply In.drewN | apply In.drew | (refine In.step ?_ (by assumption)))))
def tkB (n : Nat) (xs : List Int) (a b c f : Int) : Bool := canB n xs a b c f && decide (fstP (lessP xs (amV a b c f)) 4 < 0)
def TakeForL (n : Nat) (xs : List Int) (a b c f : Int) : List Int := if tkB n xs a b c f then subTo 4 xs (amV a b c f) 4 else xs
theorem TakeForL_len {n : Nat} {xs : List Int} {a b c f : Int} (h : xs.length = n) : (TakeForL n xs a b c f).length = n := by
  unfold TakeForL
  split
  · rename_i h1
    simp only [tkB, Bool.and_eq_true] at h1
    rw [subTo_len, (can_at h1.1).1]
  · exact h
theorem iTakeFor (ad : Addr) (n cap : Nat) (xs : List Int) (a b c f : Int) (w : World) (hn : n ≤ 10000000) (hx : ReadsI w (some ad) n xs) : Calls Try.prog 16 #[.agg #[.slice (some ad) n cap], .agg #[.int .i64 a, .int .i64 b, .int .i64 c], .int .i64 f] w (RowStV (TakeForL n xs a b c f) (.bool (tkB n xs a b c f)) w) := by
  have HX := Lib.hid hx
  have hlen := hx.1
  clear hx
  obtain ⟨b_A, hbx_A⟩ : ∃ b, b = w.heap.size := ⟨_, rfl⟩
  have kk_A : Blk (((w.alloc (.cells #[.slice (some ad) n cap] 27)).alloc (.cells #[.int .i64 a, .int .i64 b, .int .i64 c] 35)).alloc (.cells #[.slice none 0 0] 27)) b_A 27 #[.slice (some ad) n cap] := (((Blk.new' (w := w) (t := 27) (cs := #[.slice (some ad) n cap]) (g := b_A) (by simp [hbx_A])).alloc (.cells #[.int .i64 a, .int .i64 b, .int .i64 c] 35)).alloc (.cells #[.slice none 0 0] 27))
  have hwb_A : w.heap.size ≤ b_A := by omega
  obtain ⟨b_D, hbx_D⟩ : ∃ b, b = w.heap.size + 1 := ⟨_, rfl⟩
  have kk_D : Blk (((w.alloc (.cells #[.slice (some ad) n cap] 27)).alloc (.cells #[.int .i64 a, .int .i64 b, .int .i64 c] 35)).alloc (.cells #[.slice none 0 0] 27)) b_D 35 #[.int .i64 a, .int .i64 b, .int .i64 c] := ((Blk.new' (w := (w.alloc (.cells #[.slice (some ad) n cap] 27))) (t := 35) (cs := #[.int .i64 a, .int .i64 b, .int .i64 c]) (g := b_D) (by simp [hbx_D])).alloc (.cells #[.slice none 0 0] 27))
  have hwb_D : w.heap.size ≤ b_D := by omega
  obtain ⟨b_R, hbx_R⟩ : ∃ b, b = w.heap.size + 1 + 1 := ⟨_, rfl⟩
  have kk_R : Blk (((w.alloc (.cells #[.slice (some ad) n cap] 27)).alloc (.cells #[.int .i64 a, .int .i64 b, .int .i64 c] 35)).alloc (.cells #[.slice none 0 0] 27)) b_R 27 #[.slice none 0 0] := (Blk.new' (w := ((w.alloc (.cells #[.slice (some ad) n cap] 27)).alloc (.cells #[.int .i64 a, .int .i64 b, .int .i64 c] 35))) (t := 27) (cs := #[.slice none 0 0]) (g := b_R) (by simp [hbx_R]))
  have hwb_R : w.heap.size ≤ b_R := by omega
  have NB_A_D : Hid (b_A ≠ b_D) := Lib.hid (by omega)
  have NB_A_R : Hid (b_A ≠ b_R) := Lib.hid (by omega)
  have NB_D_R : Hid (b_D ≠ b_R) := Lib.hid (by omega)
  have hb_0 : Below w.heap.size w (((w.alloc (.cells #[.slice (some ad) n cap] 27)).alloc (.cells #[.int .i64 a, .int .i64 b, .int .i64 c] 35)).alloc (.cells #[.slice none 0 0] 27)) := by
    have h : In w.heap.size w (((w.alloc (.cells #[.slice (some ad) n cap] 27)).alloc (.cells #[.int .i64 a, .int .i64 b, .int .i64 c] 35)).alloc (.cells #[.slice none 0 0] 27)) := by (repeat (first | exact In.refl _ | assumption | apply In.alloc | apply In.drewN | apply In.drew | (refine In.step ?_ (by assumption))))
    exact h.below
  go_enter Try.func16, Try.ntmps16
  go_wp2_with fail
  rw [← hbx_R]
  clear hbx_R
  rw [← hbx_D]
  clear hbx_D
  rw [← hbx_A]
  clear hbx_A
  generalize (((w.alloc (.cells #[.slice (some ad) n cap] 27)).alloc (.cells #[.int .i64 a, .int .i64 b, .int .i64 c] 35)).alloc (.cells #[.slice none 0 0] 27)) = w_0 at *
  have i_0 : In w.heap.size w w_0 := In.step (by (repeat (first | exact In.refl _ | assumption | apply In.alloc | apply In.drewN | apply In.drew | (refine In.step ?_ (by assumption))))) hb_0
  have k_0_A : Blk w_0 b_A 27 #[.slice (some ad) n cap] := kk_A
  have c_0_A_0 : w_0.cell? ⟨b_A, 0, none⟩ = some (.slice (some ad) n cap) := k_0_A.cell 0
  have l_0_A := k_0_A.lt
  have k_0_D : Blk w_0 b_D 35 #[.int .i64 a, .int .i64 b, .int .i64 c] := kk_D
  have c_0_D_0 : w_0.cell? ⟨b_D, 0, none⟩ = some (.int .i64 a) := k_0_D.cell 0
  have c_0_D_1 : w_0.cell? ⟨b_D, 1, none⟩ = some (.int .i64 b) := k_0_D.cell 1
  have c_0_D_2 : w_0.cell? ⟨b_D, 2, none⟩ = some (.int .i64 c) := k_0_D.cell 2
  have l_0_D := k_0_D.lt
  have k_0_R : Blk w_0 b_R 27 #[.slice none 0 0] := kk_R
  have c_0_R_0 : w_0.cell? ⟨b_R, 0, none⟩ = some (.slice none 0 0) := k_0_R.cell 0
  have l_0_R := k_0_R.lt
  have z_0_R_0 := k_0_R.frozen 0
  clear kk_A kk_D kk_R
  go_wp2_with fail
  refine (icanTake (some ad) n cap xs a b c f _ (by unfold maxLen; omega) (HX.out.below (In.below (by (repeat (first | exact In.refl _ | assumption | apply In.alloc | apply In.drewN | apply In.drew | (refine In.step ?_ (by assumption)))))) (Nat.le_refl _))).mono ?_
  rintro _ w_1 ⟨rfl, hb_1⟩
  have i_1 : In w.heap.size w w_1 := In.step (by (repeat (first | exact In.refl _ | assumption | apply In.alloc | apply In.drewN | apply In.drew | (refine In.step ?_ (by assumption))))) hb_1
  have k_1_A : Blk w_1 b_A 27 #[.slice (some ad) n cap] := Blk.step (by (with_reducible (repeat (first | assumption | exact Blk.new' (by simp) | apply Blk.drewN | apply Blk.drew | apply Blk.alloc | (refine Blk.far ?_ (by (try simp) <;> omega) _))))) hb_1
  have c_1_A_0 : w_1.cell? ⟨b_A, 0, none⟩ = some (.slice (some ad) n cap) := k_1_A.cell 0
  have l_1_A := k_1_A.lt
  have k_1_D : Blk w_1 b_D 35 #[.int .i64 a, .int .i64 b, .int .i64 c] := Blk.step (by (with_reducible (repeat (first | assumption | exact Blk.new' (by simp) | apply Blk.drewN | apply Blk.drew | apply Blk.alloc | (refine Blk.far ?_ (by (try simp) <;> omega) _))))) hb_1
  have c_1_D_0 : w_1.cell? ⟨b_D, 0, none⟩ = some (.int .i64 a) := k_1_D.cell 0
  have c_1_D_1 : w_1.cell? ⟨b_D, 1, none⟩ = some (.int .i64 b) := k_1_D.cell 1
  have c_1_D_2 : w_1.cell? ⟨b_D, 2, none⟩ = some (.int .i64 c) := k_1_D.cell 2
  have l_1_D := k_1_D.lt
  have k_1_R : Blk w_1 b_R 27 #[.slice none 0 0] := Blk.step (by (with_reducible (repeat (first | assumption | exact Blk.new' (by simp) | apply Blk.drewN | apply Blk.drew | apply Blk.alloc | (refine Blk.far ?_ (by (try simp) <;> omega) _))))) hb_1
  have c_1_R_0 : w_1.cell? ⟨b_R, 0, none⟩ = some (.slice none 0 0) := k_1_R.cell 0
  have l_1_R := k_1_R.lt
  have z_1_R_0 := k_1_R.frozen 0
  clear i_0 k_0_A c_0_A_0 l_0_A k_0_D c_0_D_0 c_0_D_1 c_0_D_2 l_0_D k_0_R c_0_R_0 l_0_R z_0_R_0 hb_0
  cases h1 : canB n xs a b c f
  · have HV : Hid (tkB n xs a b c f = false) := Lib.hid (by simp [tkB, h1])
    have HL : Hid (TakeForL n xs a b c f = xs) := Lib.hid (by simp [TakeForL, HV.out])
    go_wp2_with fail
    refine (icopied ad n cap xs _ (by omega) (HX.out.below (In.below (by (repeat (first | exact In.refl _ | assumption | apply In.alloc | apply In.drewN | apply In.drew | (refine In.step ?_ (by assumption)))))) (Nat.le_refl _))).mono ?_
    rintro _ w_2 ⟨g_2, c_2, rfl, ho_2, hg_2, hb_2⟩
    rw [hlen] at ho_2
    rw [hlen]
    have GX_C : Hid (w.heap.size ≤ g_2) := Lib.hid (by have h1 := hg_2; (try simp at h1); have h2 := In.size i_1; omega)
    have o_2_C : OwnC w_2 g_2 (n) c_2 xs := ho_2
    clear ho_2 hg_2
    have i_2 : In w.heap.size w w_2 := In.step (by (repeat (first | exact In.refl _ | assumption | apply In.alloc | apply In.drewN | apply In.drew | (refine In.step ?_ (by assumption))))) hb_2
    have k_2_A : Blk w_2 b_A 27 #[.slice (some ad) n cap] := Blk.step (by (with_reducible (repeat (first | assumption | exact Blk.new' (by simp) | apply Blk.drewN | apply Blk.drew | apply Blk.alloc | (refine Blk.far ?_ (by (try simp) <;> omega) _))))) hb_2
    have c_2_A_0 : w_2.cell? ⟨b_A, 0, none⟩ = some (.slice (some ad) n cap) := k_2_A.cell 0
    have l_2_A := k_2_A.lt
    have k_2_D : Blk w_2 b_D 35 #[.int .i64 a, .int .i64 b, .int .i64 c] := Blk.step (by (with_reducible (repeat (first | assumption | exact Blk.new' (by simp) | apply Blk.drewN | apply Blk.drew | apply Blk.alloc | (refine Blk.far ?_ (by (try simp) <;> omega) _))))) hb_2
    have c_2_D_0 : w_2.cell? ⟨b_D, 0, none⟩ = some (.int .i64 a) := k_2_D.cell 0
    have c_2_D_1 : w_2.cell? ⟨b_D, 1, none⟩ = some (.int .i64 b) := k_2_D.cell 1
    have c_2_D_2 : w_2.cell? ⟨b_D, 2, none⟩ = some (.int .i64 c) := k_2_D.cell 2
    have l_2_D := k_2_D.lt
    have k_2_R : Blk w_2 b_R 27 #[.slice none 0 0] := Blk.step (by (with_reducible (repeat (first | assumption | exact Blk.new' (by simp) | apply Blk.drewN | apply Blk.drew | apply Blk.alloc | (refine Blk.far ?_ (by (try simp) <;> omega) _))))) hb_2
    have c_2_R_0 : w_2.cell? ⟨b_R, 0, none⟩ = some (.slice none 0 0) := k_2_R.cell 0
    have l_2_R := k_2_R.lt
    have z_2_R_0 := k_2_R.frozen 0
    clear i_1 k_1_A c_1_A_0 l_1_A k_1_D c_1_D_0 c_1_D_1 c_1_D_2 l_1_D k_1_R c_1_R_0 l_1_R z_1_R_0 hb_1
    have HO : Hid (OwnC (w_2.setCell ⟨b_R, 0, none⟩ (.slice (some ⟨g_2, 0, none⟩) (n) c_2)) g_2 (n) c_2 xs) := Lib.hid (OwnC.far (by (with_reducible (repeat (first | assumption | apply OwnC.drewN | apply OwnC.drew | apply OwnC.alloc)))) (show Blk w_2 b_R 27 #[.slice none 0 0] from k_2_R) (by decide) (only_set _ _))
    have i9 : In w.heap.size w (w_2.setCell ⟨b_R, 0, none⟩ (.slice (some ⟨g_2, 0, none⟩) (n) c_2)) := In.set_ i_2 (p := ⟨b_R, 0, none⟩) hwb_R _
    have HK : Hid ((w_2.setCell ⟨b_R, 0, none⟩ (.slice (some ⟨g_2, 0, none⟩) (n) c_2)).cell? ⟨b_R, 0, none⟩ = some (.slice (some ⟨g_2, 0, none⟩) (n) c_2)) := Lib.hid (by
      have h := (k_2_R.set_ 0 (.slice (some ⟨g_2, 0, none⟩) (n) c_2)).cell 0
      simpa using h)
    have hzr := k_2_R.frozen 0
    clear i_2 o_2_C hb_2
    go_wp2
    have hk := HK.out
    exact bodyPost_ret (v := .tuple #[.agg #[.slice (some ⟨g_2, 0, none⟩) (n) c_2], .bool false]) (by simp [results, Try.results16, go_sem, hk]) rfl (by rw [HV.out, HL.out]; exact rowStV_of hlen HO.out GX_C.out i9.below)
  obtain ⟨rfl, hs, hd, hf, hf2⟩ := can_at h1
  have HS := Lib.hid hs
  have HAM := Lib.hid (fun i => amV_in (i := i) hd hf hf2)
  clear hs
  go_wp2_with fail
  refine (itaking ad 4 cap xs _ (by omega) (HX.out.below (In.below (by (repeat (first | exact In.refl _ | assumption | apply In.alloc | apply In.drewN | apply In.drew | (refine In.step ?_ (by assumption)))))) (Nat.le_refl _))).mono ?_
  rintro _ w_2 ⟨g_2, c_2, b_T, rfl, ho_2, hg_2, kk_T, hT_2, hb_2⟩
  rw [hlen] at ho_2 kk_T
  rw [hlen]
  have hwb_T : w.heap.size ≤ b_T := by have h1 := hT_2; (try simp at h1); have h2 := In.size i_1; omega
  have NB_A_T : Hid (b_A ≠ b_T) := Lib.hid (by have h1 := hT_2; (try simp at h1); have h2 := k_1_A.lt; omega)
  have NB_D_T : Hid (b_D ≠ b_T) := Lib.hid (by have h1 := hT_2; (try simp at h1); have h2 := k_1_D.lt; omega)
  have NB_R_T : Hid (b_R ≠ b_T) := Lib.hid (by have h1 := hT_2; (try simp at h1); have h2 := k_1_R.lt; omega)
  have GX_L : Hid (w.heap.size ≤ g_2) := Lib.hid (by have h1 := hg_2; (try simp at h1); have h2 := In.size i_1; omega)
  have o_2_L : OwnC w_2 g_2 4 c_2 xs := ho_2
  clear ho_2 hg_2 hT_2
  have i_2 : In w.heap.size w w_2 := In.step (by (repeat (first | exact In.refl _ | assumption | apply In.alloc | apply In.drewN | apply In.drew | (refine In.step ?_ (by assumption))))) hb_2
  have k_2_A : Blk w_2 b_A 27 #[.slice (some ad) 4 cap] := Blk.step (by (with_reducible (repeat (first | assumption | exact Blk.new' (by simp) | apply Blk.drewN | apply Blk.drew | apply Blk.alloc | (refine Blk.far ?_ (by (try simp) <;> omega) _))))) hb_2
  have c_2_A_0 : w_2.cell? ⟨b_A, 0, none⟩ = some (.slice (some ad) 4 cap) := k_2_A.cell 0
  have l_2_A := k_2_A.lt
  have k_2_D : Blk w_2 b_D 35 #[.int .i64 a, .int .i64 b, .int .i64 c] := Blk.step (by (with_reducible (repeat (first | assumption | exact Blk.new' (by simp) | apply Blk.drewN | apply Blk.drew | apply Blk.alloc | (refine Blk.far ?_ (by (try simp) <;> omega) _))))) hb_2
  have c_2_D_0 : w_2.cell? ⟨b_D, 0, none⟩ = some (.int .i64 a) := k_2_D.cell 0
  have c_2_D_1 : w_2.cell? ⟨b_D, 1, none⟩ = some (.int .i64 b) := k_2_D.cell 1
  have c_2_D_2 : w_2.cell? ⟨b_D, 2, none⟩ = some (.int .i64 c) := k_2_D.cell 2
  have l_2_D := k_2_D.lt
  have k_2_R : Blk w_2 b_R 27 #[.slice none 0 0] := Blk.step (by (with_reducible (repeat (first | assumption | exact Blk.new' (by simp) | apply Blk.drewN | apply Blk.drew | apply Blk.alloc | (refine Blk.far ?_ (by (try simp) <;> omega) _))))) hb_2
  have c_2_R_0 : w_2.cell? ⟨b_R, 0, none⟩ = some (.slice none 0 0) := k_2_R.cell 0
  have l_2_R := k_2_R.lt
  have z_2_R_0 := k_2_R.frozen 0
  have k_2_T : Blk w_2 b_T 27 #[.slice (some ⟨g_2, 0, none⟩) 4 c_2] := kk_T
  have c_2_T_0 : w_2.cell? ⟨b_T, 0, none⟩ = some (.slice (some ⟨g_2, 0, none⟩) 4 c_2) := k_2_T.cell 0
  have l_2_T := k_2_T.lt
  clear i_1 k_1_A c_1_A_0 l_1_A k_1_D c_1_D_0 c_1_D_1 c_1_D_2 l_1_D k_1_R c_1_R_0 l_1_R z_1_R_0 hb_1
  clear kk_T
  go_wp2_with fail
  obtain ⟨b_L, hbx_L⟩ : ∃ b, b = w_2.heap.size := ⟨_, rfl⟩
  rw [← hbx_L]
  have hwb_L : w.heap.size ≤ b_L := by have h := In.size i_2; omega
  have NB_A_L : Hid (b_A ≠ b_L) := Lib.hid (by have h := k_2_A.lt; omega)
  have NB_D_L : Hid (b_D ≠ b_L) := Lib.hid (by have h := k_2_D.lt; omega)
  have NB_R_L : Hid (b_R ≠ b_L) := Lib.hid (by have h := k_2_R.lt; omega)
  have NB_T_L : Hid (b_T ≠ b_L) := Lib.hid (by have h := k_2_T.lt; omega)
  have hb_3 : Below w_2.heap.size w_2 (w_2.alloc (.cells #[.slice (some ⟨g_2, 0, none⟩) 4 c_2] 27)) := (Below.refl _ _).alloc (Nat.le_refl _) _
  have kk_3 : Blk (w_2.alloc (.cells #[.slice (some ⟨g_2, 0, none⟩) 4 c_2] 27)) b_L 27 #[.slice (some ⟨g_2, 0, none⟩) 4 c_2] := Blk.new' hbx_L
  clear hbx_L
  generalize (w_2.alloc (.cells #[.slice (some ⟨g_2, 0, none⟩) 4 c_2] 27)) = w_3 at *
  have i_3 : In w.heap.size w w_3 := In.step (by (repeat (first | exact In.refl _ | assumption | apply In.alloc | apply In.drewN | apply In.drew | (refine In.step ?_ (by assumption))))) hb_3
  have k_3_A : Blk w_3 b_A 27 #[.slice (some ad) 4 cap] := Blk.step (by (with_reducible (repeat (first | assumption | exact Blk.new' (by simp) | apply Blk.drewN | apply Blk.drew | apply Blk.alloc | (refine Blk.far ?_ (by (try simp) <;> omega) _))))) hb_3
  have c_3_A_0 : w_3.cell? ⟨b_A, 0, none⟩ = some (.slice (some ad) 4 cap) := k_3_A.cell 0
  have l_3_A := k_3_A.lt
  have k_3_D : Blk w_3 b_D 35 #[.int .i64 a, .int .i64 b, .int .i64 c] := Blk.step (by (with_reducible (repeat (first | assumption | exact Blk.new' (by simp) | apply Blk.drewN | apply Blk.drew | apply Blk.alloc | (refine Blk.far ?_ (by (try simp) <;> omega) _))))) hb_3
  have c_3_D_0 : w_3.cell? ⟨b_D, 0, none⟩ = some (.int .i64 a) := k_3_D.cell 0
  have c_3_D_1 : w_3.cell? ⟨b_D, 1, none⟩ = some (.int .i64 b) := k_3_D.cell 1
  have c_3_D_2 : w_3.cell? ⟨b_D, 2, none⟩ = some (.int .i64 c) := k_3_D.cell 2
  have l_3_D := k_3_D.lt
  have k_3_R : Blk w_3 b_R 27 #[.slice none 0 0] := Blk.step (by (with_reducible (repeat (first | assumption | exact Blk.new' (by simp) | apply Blk.drewN | apply Blk.drew | apply Blk.alloc | (refine Blk.far ?_ (by (try simp) <;> omega) _))))) hb_3
  have c_3_R_0 : w_3.cell? ⟨b_R, 0, none⟩ = some (.slice none 0 0) := k_3_R.cell 0
  have l_3_R := k_3_R.lt
  have z_3_R_0 := k_3_R.frozen 0
  have k_3_T : Blk w_3 b_T 27 #[.slice (some ⟨g_2, 0, none⟩) 4 c_2] := Blk.step (by (with_reducible (repeat (first | assumption | exact Blk.new' (by simp) | apply Blk.drewN | apply Blk.drew | apply Blk.alloc | (refine Blk.far ?_ (by (try simp) <;> omega) _))))) hb_3
  have c_3_T_0 : w_3.cell? ⟨b_T, 0, none⟩ = some (.slice (some ⟨g_2, 0, none⟩) 4 c_2) := k_3_T.cell 0
  have l_3_T := k_3_T.lt
  have k_3_L : Blk w_3 b_L 27 #[.slice (some ⟨g_2, 0, none⟩) 4 c_2] := kk_3
  have c_3_L_0 : w_3.cell? ⟨b_L, 0, none⟩ = some (.slice (some ⟨g_2, 0, none⟩) 4 c_2) := k_3_L.cell 0
  have l_3_L := k_3_L.lt
  have o_3_L : OwnC w_3 g_2 (4) c_2 xs := OwnC.step (by (with_reducible (repeat (first | assumption | apply OwnC.drewN | apply OwnC.drew | apply OwnC.alloc)))) hb_3
  clear i_2 k_2_A c_2_A_0 l_2_A k_2_D c_2_D_0 c_2_D_1 c_2_D_2 l_2_D k_2_R c_2_R_0 l_2_R z_2_R_0 k_2_T c_2_T_0 l_2_T o_2_L hb_2
  clear kk_3
  go_wp2_with fail
  refine (iAm a b c f hd hf hf2 _).mono ?_
  rintro _ w_4 ⟨g_4, rfl, ho_4, hg_4, hb_4⟩
  have NE_L_M : Hid (g_2 ≠ g_4) := Lib.hid (by have h1 := hg_4; (try simp at h1); have h2 := OwnC.lt o_3_L; omega)
  have GX_M : Hid (w.heap.size ≤ g_4) := Lib.hid (by have h1 := hg_4; (try simp at h1); have h2 := In.size i_3; omega)
  have o_4_M : OwnC w_4 g_4 (4) 4 (amV a b c f) := ho_4
  clear ho_4 hg_4
  have i_4 : In w.heap.size w w_4 := In.step (by (repeat (first | exact In.refl _ | assumption | apply In.alloc | apply In.drewN | apply In.drew | (refine In.step ?_ (by assumption))))) hb_4
  have k_4_A : Blk w_4 b_A 27 #[.slice (some ad) 4 cap] := Blk.step (by (with_reducible (repeat (first | assumption | exact Blk.new' (by simp) | apply Blk.drewN | apply Blk.drew | apply Blk.alloc | (refine Blk.far ?_ (by (try simp) <;> omega) _))))) hb_4
  have c_4_A_0 : w_4.cell? ⟨b_A, 0, none⟩ = some (.slice (some ad) 4 cap) := k_4_A.cell 0
  have l_4_A := k_4_A.lt
  have k_4_D : Blk w_4 b_D 35 #[.int .i64 a, .int .i64 b, .int .i64 c] := Blk.step (by (with_reducible (repeat (first | assumption | exact Blk.new' (by simp) | apply Blk.drewN | apply Blk.drew | apply Blk.alloc | (refine Blk.far ?_ (by (try simp) <;> omega) _))))) hb_4
  have c_4_D_0 : w_4.cell? ⟨b_D, 0, none⟩ = some (.int .i64 a) := k_4_D.cell 0
  have c_4_D_1 : w_4.cell? ⟨b_D, 1, none⟩ = some (.int .i64 b) := k_4_D.cell 1
  have c_4_D_2 : w_4.cell? ⟨b_D, 2, none⟩ = some (.int .i64 c) := k_4_D.cell 2
  have l_4_D := k_4_D.lt
  have k_4_R : Blk w_4 b_R 27 #[.slice none 0 0] := Blk.step (by (with_reducible (repeat (first | assumption | exact Blk.new' (by simp) | apply Blk.drewN | apply Blk.drew | apply Blk.alloc | (refine Blk.far ?_ (by (try simp) <;> omega) _))))) hb_4
  have c_4_R_0 : w_4.cell? ⟨b_R, 0, none⟩ = some (.slice none 0 0) := k_4_R.cell 0
  have l_4_R := k_4_R.lt
  have z_4_R_0 := k_4_R.frozen 0
  have k_4_T : Blk w_4 b_T 27 #[.slice (some ⟨g_2, 0, none⟩) 4 c_2] := Blk.step (by (with_reducible (repeat (first | assumption | exact Blk.new' (by simp) | apply Blk.drewN | apply Blk.drew | apply Blk.alloc | (refine Blk.far ?_ (by (try simp) <;> omega) _))))) hb_4
  have c_4_T_0 : w_4.cell? ⟨b_T, 0, none⟩ = some (.slice (some ⟨g_2, 0, none⟩) 4 c_2) := k_4_T.cell 0
  have l_4_T := k_4_T.lt
  have k_4_L : Blk w_4 b_L 27 #[.slice (some ⟨g_2, 0, none⟩) 4 c_2] := Blk.step (by (with_reducible (repeat (first | assumption | exact Blk.new' (by simp) | apply Blk.drewN | apply Blk.drew | apply Blk.alloc | (refine Blk.far ?_ (by (try simp) <;> omega) _))))) hb_4
  have c_4_L_0 : w_4.cell? ⟨b_L, 0, none⟩ = some (.slice (some ⟨g_2, 0, none⟩) 4 c_2) := k_4_L.cell 0
  have l_4_L := k_4_L.lt
  have o_4_L : OwnC w_4 g_2 (4) c_2 xs := OwnC.step (by (with_reducible (repeat (first | assumption | apply OwnC.drewN | apply OwnC.drew | apply OwnC.alloc)))) hb_4
  clear i_3 k_3_A c_3_A_0 l_3_A k_3_D c_3_D_0 c_3_D_1 c_3_D_2 l_3_D k_3_R c_3_R_0 l_3_R z_3_R_0 k_3_T c_3_T_0 l_3_T k_3_L c_3_L_0 l_3_L o_3_L hb_3
  go_wp2_with fail
  refine (itake b_T g_2 4 c_2 g_4 4 xs (amV a b c f) _ (by omega) k_4_T o_4_L o_4_M.reads NE_L_M.out.symm (fun i hi => by have h1 := HS.out i hi; have h2 := HAM.out i; omega)).mono ?_
  rintro _ w_5 ⟨rfl, ho_5, hb_5⟩
  have o_5_L : OwnC w_5 g_2 (4) c_2 (subTo 4 xs (amV a b c f) 4) := ho_5
  clear ho_5
  have i_5 : In w.heap.size w w_5 := In.wide (by (repeat (first | exact In.refl _ | assumption | apply In.alloc | apply In.drewN | apply In.drew | (refine In.step ?_ (by assumption))))) (below_of_only hb_5 GX_L.out (In.size (B := w.heap.size) (a := w) (by (repeat (first | exact In.refl _ | assumption | apply In.alloc | apply In.drewN | apply In.drew | (refine In.step ?_ (by assumption)))))))
  have k_5_A : Blk w_5 b_A 27 #[.slice (some ad) 4 cap] := Blk.grown k_4_A hb_5 (fun h => (OwnC.ne o_4_L k_4_A (by decide)) (Option.some.inj h).symm)
  have c_5_A_0 : w_5.cell? ⟨b_A, 0, none⟩ = some (.slice (some ad) 4 cap) := k_5_A.cell 0
  have l_5_A := k_5_A.lt
  have k_5_D : Blk w_5 b_D 35 #[.int .i64 a, .int .i64 b, .int .i64 c] := Blk.grown k_4_D hb_5 (fun h => (OwnC.ne o_4_L k_4_D (by decide)) (Option.some.inj h).symm)
  have c_5_D_0 : w_5.cell? ⟨b_D, 0, none⟩ = some (.int .i64 a) := k_5_D.cell 0
  have c_5_D_1 : w_5.cell? ⟨b_D, 1, none⟩ = some (.int .i64 b) := k_5_D.cell 1
  have c_5_D_2 : w_5.cell? ⟨b_D, 2, none⟩ = some (.int .i64 c) := k_5_D.cell 2
  have l_5_D := k_5_D.lt
  have k_5_R : Blk w_5 b_R 27 #[.slice none 0 0] := Blk.grown k_4_R hb_5 (fun h => (OwnC.ne o_4_L k_4_R (by decide)) (Option.some.inj h).symm)
  have c_5_R_0 : w_5.cell? ⟨b_R, 0, none⟩ = some (.slice none 0 0) := k_5_R.cell 0
  have l_5_R := k_5_R.lt
  have z_5_R_0 := k_5_R.frozen 0
  have k_5_T : Blk w_5 b_T 27 #[.slice (some ⟨g_2, 0, none⟩) 4 c_2] := Blk.grown k_4_T hb_5 (fun h => (OwnC.ne o_4_L k_4_T (by decide)) (Option.some.inj h).symm)
  have c_5_T_0 : w_5.cell? ⟨b_T, 0, none⟩ = some (.slice (some ⟨g_2, 0, none⟩) 4 c_2) := k_5_T.cell 0
  have l_5_T := k_5_T.lt
  have k_5_L : Blk w_5 b_L 27 #[.slice (some ⟨g_2, 0, none⟩) 4 c_2] := Blk.grown k_4_L hb_5 (fun h => (OwnC.ne o_4_L k_4_L (by decide)) (Option.some.inj h).symm)
  have c_5_L_0 : w_5.cell? ⟨b_L, 0, none⟩ = some (.slice (some ⟨g_2, 0, none⟩) 4 c_2) := k_5_L.cell 0
  have l_5_L := k_5_L.lt
  have o_5_M : OwnC w_5 g_4 (4) 4 (amV a b c f) := OwnC.only (by (with_reducible (repeat (first | assumption | apply OwnC.drewN | apply OwnC.drew | apply OwnC.alloc)))) hb_5 (by first | exact NE_M_L.out | exact NE_L_M.out.symm)
  clear i_4 k_4_A c_4_A_0 l_4_A k_4_D c_4_D_0 c_4_D_1 c_4_D_2 l_4_D k_4_R c_4_R_0 l_4_R z_4_R_0 k_4_T c_4_T_0 l_4_T k_4_L c_4_L_0 l_4_L o_4_L o_4_M hb_4
  go_wp2_with fail
  refine (ifirstBelow (some ⟨g_2, 0, none⟩) 4 c_2 (subTo 4 xs (amV a b c f) 4) _ (by omega) o_5_L.reads).mono ?_
  rintro _ w_6 ⟨rfl, hb_6⟩
  rw [neg_less]
  have i_6 : In w.heap.size w w_6 := In.step (by (repeat (first | exact In.refl _ | assumption | apply In.alloc | apply In.drewN | apply In.drew | (refine In.step ?_ (by assumption))))) hb_6
  have k_6_A : Blk w_6 b_A 27 #[.slice (some ad) 4 cap] := Blk.step (by (with_reducible (repeat (first | assumption | exact Blk.new' (by simp) | apply Blk.drewN | apply Blk.drew | apply Blk.alloc | (refine Blk.far ?_ (by (try simp) <;> omega) _))))) hb_6
  have c_6_A_0 : w_6.cell? ⟨b_A, 0, none⟩ = some (.slice (some ad) 4 cap) := k_6_A.cell 0
  have l_6_A := k_6_A.lt
  have k_6_D : Blk w_6 b_D 35 #[.int .i64 a, .int .i64 b, .int .i64 c] := Blk.step (by (with_reducible (repeat (first | assumption | exact Blk.new' (by simp) | apply Blk.drewN | apply Blk.drew | apply Blk.alloc | (refine Blk.far ?_ (by (try simp) <;> omega) _))))) hb_6
  have c_6_D_0 : w_6.cell? ⟨b_D, 0, none⟩ = some (.int .i64 a) := k_6_D.cell 0
  have c_6_D_1 : w_6.cell? ⟨b_D, 1, none⟩ = some (.int .i64 b) := k_6_D.cell 1
  have c_6_D_2 : w_6.cell? ⟨b_D, 2, none⟩ = some (.int .i64 c) := k_6_D.cell 2
  have l_6_D := k_6_D.lt
  have k_6_R : Blk w_6 b_R 27 #[.slice none 0 0] := Blk.step (by (with_reducible (repeat (first | assumption | exact Blk.new' (by simp) | apply Blk.drewN | apply Blk.drew | apply Blk.alloc | (refine Blk.far ?_ (by (try simp) <;> omega) _))))) hb_6
  have c_6_R_0 : w_6.cell? ⟨b_R, 0, none⟩ = some (.slice none 0 0) := k_6_R.cell 0
  have l_6_R := k_6_R.lt
  have z_6_R_0 := k_6_R.frozen 0
  have k_6_T : Blk w_6 b_T 27 #[.slice (some ⟨g_2, 0, none⟩) 4 c_2] := Blk.step (by (with_reducible (repeat (first | assumption | exact Blk.new' (by simp) | apply Blk.drewN | apply Blk.drew | apply Blk.alloc | (refine Blk.far ?_ (by (try simp) <;> omega) _))))) hb_6
  have c_6_T_0 : w_6.cell? ⟨b_T, 0, none⟩ = some (.slice (some ⟨g_2, 0, none⟩) 4 c_2) := k_6_T.cell 0
  have l_6_T := k_6_T.lt
  have k_6_L : Blk w_6 b_L 27 #[.slice (some ⟨g_2, 0, none⟩) 4 c_2] := Blk.step (by (with_reducible (repeat (first | assumption | exact Blk.new' (by simp) | apply Blk.drewN | apply Blk.drew | apply Blk.alloc | (refine Blk.far ?_ (by (try simp) <;> omega) _))))) hb_6
  have c_6_L_0 : w_6.cell? ⟨b_L, 0, none⟩ = some (.slice (some ⟨g_2, 0, none⟩) 4 c_2) := k_6_L.cell 0
  have l_6_L := k_6_L.lt
  have o_6_L : OwnC w_6 g_2 (4) c_2 (subTo 4 xs (amV a b c f) 4) := OwnC.step (by (with_reducible (repeat (first | assumption | apply OwnC.drewN | apply OwnC.drew | apply OwnC.alloc)))) hb_6
  have o_6_M : OwnC w_6 g_4 (4) 4 (amV a b c f) := OwnC.step (by (with_reducible (repeat (first | assumption | apply OwnC.drewN | apply OwnC.drew | apply OwnC.alloc)))) hb_6
  clear i_5 k_5_A c_5_A_0 l_5_A k_5_D c_5_D_0 c_5_D_1 c_5_D_2 l_5_D k_5_R c_5_R_0 l_5_R z_5_R_0 k_5_T c_5_T_0 l_5_T k_5_L c_5_L_0 l_5_L o_5_L o_5_M hb_5
  obtain ⟨q, hq⟩ : ∃ q, fstP (lessP xs (amV a b c f)) 4 = q := ⟨_, rfl⟩
  rw [hq]
  by_cases h2 : 0 ≤ q
  · have h2 : ¬ fstP (lessP xs (amV a b c f)) 4 < 0 := by omega
    clear hq
    have HV : Hid (tkB 4 xs a b c f = false) := Lib.hid (by simp [tkB, h1, h2])
    have HL : Hid (TakeForL 4 xs a b c f = xs) := Lib.hid (by simp [TakeForL, HV.out])
    go_wp2_with fail
    refine (icopied ad 4 cap xs _ (by omega) (HX.out.below (In.below (by (repeat (first | exact In.refl _ | assumption | apply In.alloc | apply In.drewN | apply In.drew | (refine In.step ?_ (by assumption)))))) (Nat.le_refl _))).mono ?_
    rintro _ w_7 ⟨g_7, c_7, rfl, ho_7, hg_7, hb_7⟩
    rw [hlen] at ho_7
    rw [hlen]
    have NE_L_C : Hid (g_2 ≠ g_7) := Lib.hid (by have h1 := hg_7; (try simp at h1); have h2 := OwnC.lt o_6_L; omega)
    have NE_M_C : Hid (g_4 ≠ g_7) := Lib.hid (by have h1 := hg_7; (try simp at h1); have h2 := OwnC.lt o_6_M; omega)
    have GX_C : Hid (w.heap.size ≤ g_7) := Lib.hid (by have h1 := hg_7; (try simp at h1); have h2 := In.size i_6; omega)
    have o_7_C : OwnC w_7 g_7 (4) c_7 xs := ho_7
    clear ho_7 hg_7
    have i_7 : In w.heap.size w w_7 := In.step (by (repeat (first | exact In.refl _ | assumption | apply In.alloc | apply In.drewN | apply In.drew | (refine In.step ?_ (by assumption))))) hb_7
    have k_7_A : Blk w_7 b_A 27 #[.slice (some ad) 4 cap] := Blk.step (by (with_reducible (repeat (first | assumption | exact Blk.new' (by simp) | apply Blk.drewN | apply Blk.drew | apply Blk.alloc | (refine Blk.far ?_ (by (try simp) <;> omega) _))))) hb_7
    have c_7_A_0 : w_7.cell? ⟨b_A, 0, none⟩ = some (.slice (some ad) 4 cap) := k_7_A.cell 0
    have l_7_A := k_7_A.lt
    have k_7_D : Blk w_7 b_D 35 #[.int .i64 a, .int .i64 b, .int .i64 c] := Blk.step (by (with_reducible (repeat (first | assumption | exact Blk.new' (by simp) | apply Blk.drewN | apply Blk.drew | apply Blk.alloc | (refine Blk.far ?_ (by (try simp) <;> omega) _))))) hb_7
    have c_7_D_0 : w_7.cell? ⟨b_D, 0, none⟩ = some (.int .i64 a) := k_7_D.cell 0
    have c_7_D_1 : w_7.cell? ⟨b_D, 1, none⟩ = some (.int .i64 b) := k_7_D.cell 1
    have c_7_D_2 : w_7.cell? ⟨b_D, 2, none⟩ = some (.int .i64 c) := k_7_D.cell 2
    have l_7_D := k_7_D.lt
    have k_7_R : Blk w_7 b_R 27 #[.slice none 0 0] := Blk.step (by (with_reducible (repeat (first | assumption | exact Blk.new' (by simp) | apply Blk.drewN | apply Blk.drew | apply Blk.alloc | (refine Blk.far ?_ (by (try simp) <;> omega) _))))) hb_7
    have c_7_R_0 : w_7.cell? ⟨b_R, 0, none⟩ = some (.slice none 0 0) := k_7_R.cell 0
    have l_7_R := k_7_R.lt
    have z_7_R_0 := k_7_R.frozen 0
    have k_7_T : Blk w_7 b_T 27 #[.slice (some ⟨g_2, 0, none⟩) 4 c_2] := Blk.step (by (with_reducible (repeat (first | assumption | exact Blk.new' (by simp) | apply Blk.drewN | apply Blk.drew | apply Blk.alloc | (refine Blk.far ?_ (by (try simp) <;> omega) _))))) hb_7
    have c_7_T_0 : w_7.cell? ⟨b_T, 0, none⟩ = some (.slice (some ⟨g_2, 0, none⟩) 4 c_2) := k_7_T.cell 0
    have l_7_T := k_7_T.lt
    have k_7_L : Blk w_7 b_L 27 #[.slice (some ⟨g_2, 0, none⟩) 4 c_2] := Blk.step (by (with_reducible (repeat (first | assumption | exact Blk.new' (by simp) | apply Blk.drewN | apply Blk.drew | apply Blk.alloc | (refine Blk.far ?_ (by (try simp) <;> omega) _))))) hb_7
    have c_7_L_0 : w_7.cell? ⟨b_L, 0, none⟩ = some (.slice (some ⟨g_2, 0, none⟩) 4 c_2) := k_7_L.cell 0
    have l_7_L := k_7_L.lt
    have o_7_L : OwnC w_7 g_2 (4) c_2 (subTo 4 xs (amV a b c f) 4) := OwnC.step (by (with_reducible (repeat (first | assumption | apply OwnC.drewN | apply OwnC.drew | apply OwnC.alloc)))) hb_7
    have o_7_M : OwnC w_7 g_4 (4) 4 (amV a b c f) := OwnC.step (by (with_reducible (repeat (first | assumption | apply OwnC.drewN | apply OwnC.drew | apply OwnC.alloc)))) hb_7
    clear i_6 k_6_A c_6_A_0 l_6_A k_6_D c_6_D_0 c_6_D_1 c_6_D_2 l_6_D k_6_R c_6_R_0 l_6_R z_6_R_0 k_6_T c_6_T_0 l_6_T k_6_L c_6_L_0 l_6_L o_6_L o_6_M hb_6
    have HO : Hid (OwnC (w_7.setCell ⟨b_R, 0, none⟩ (.slice (some ⟨g_7, 0, none⟩) (4) c_7)) g_7 (4) c_7 xs) := Lib.hid (OwnC.far (by (with_reducible (repeat (first | assumption | apply OwnC.drewN | apply OwnC.drew | apply OwnC.alloc)))) (show Blk w_7 b_R 27 #[.slice none 0 0] from k_7_R) (by decide) (only_set _ _))
    have i9 : In w.heap.size w (w_7.setCell ⟨b_R, 0, none⟩ (.slice (some ⟨g_7, 0, none⟩) (4) c_7)) := In.set_ i_7 (p := ⟨b_R, 0, none⟩) hwb_R _
    have HK : Hid ((w_7.setCell ⟨b_R, 0, none⟩ (.slice (some ⟨g_7, 0, none⟩) (4) c_7)).cell? ⟨b_R, 0, none⟩ = some (.slice (some ⟨g_7, 0, none⟩) (4) c_7)) := Lib.hid (by
      have h := (k_7_R.set_ 0 (.slice (some ⟨g_7, 0, none⟩) (4) c_7)).cell 0
      simpa using h)
    have hzr := k_7_R.frozen 0
    clear i_7 o_7_L o_7_M o_7_C hb_7
    go_wp2
    have hk := HK.out
    exact bodyPost_ret (v := .tuple #[.agg #[.slice (some ⟨g_7, 0, none⟩) (4) c_7], .bool false]) (by simp [results, Try.results16, go_sem, hk]) rfl (by rw [HV.out, HL.out]; exact rowStV_of hlen HO.out GX_C.out i9.below)
  · have HV : Hid (tkB 4 xs a b c f = true) := Lib.hid (by simp [tkB, h1]; omega)
    have HL : Hid (TakeForL 4 xs a b c f = subTo 4 xs (amV a b c f) 4) := Lib.hid (by simp [TakeForL, HV.out])
    clear hq
    have HO : Hid (OwnC (w_6.setCell ⟨b_R, 0, none⟩ (.slice (some ⟨g_2, 0, none⟩) (4) c_2)) g_2 (4) c_2 (subTo 4 xs (amV a b c f) 4)) := Lib.hid (OwnC.far (by (with_reducible (repeat (first | assumption | apply OwnC.drewN | apply OwnC.drew | apply OwnC.alloc)))) (show Blk w_6 b_R 27 #[.slice none 0 0] from k_6_R) (by decide) (only_set _ _))
    have i9 : In w.heap.size w (w_6.setCell ⟨b_R, 0, none⟩ (.slice (some ⟨g_2, 0, none⟩) (4) c_2)) := In.set_ i_6 (p := ⟨b_R, 0, none⟩) hwb_R _
    have HK : Hid ((w_6.setCell ⟨b_R, 0, none⟩ (.slice (some ⟨g_2, 0, none⟩) (4) c_2)).cell? ⟨b_R, 0, none⟩ = some (.slice (some ⟨g_2, 0, none⟩) (4) c_2)) := Lib.hid (by
      have h := (k_6_R.set_ 0 (.slice (some ⟨g_2, 0, none⟩) (4) c_2)).cell 0
      simpa using h)
    have hzr := k_6_R.frozen 0
    clear i_6 o_6_L o_6_M hb_6
    go_wp2
    have hk := HK.out
    exact bodyPost_ret (v := .tuple #[.agg #[.slice (some ⟨g_2, 0, none⟩) (4) c_2], .bool true]) (by simp [results, Try.results16, go_sem, hk]) rfl (by rw [HV.out, HL.out]; exact rowStV_of (subTo_len _ _ _ _) HO.out GX_L.out i9.below)
end Go.Proofs.Ythadanmiomeehaa
