/- Chapter 36: MostFlour. -/
import Derived.Test.YthadanmiomeehaaF36
import Derived.IntWalk
namespace Go.Proofs.Ythadanmiomeehaa
open Go.ChangeShapes Go.WideShapes Go.ChangeAt Go.RowKit
set_option linter.unusedVariables false
set_option linter.unusedSimpArgs false
set_option maxHeartbeats 2000000

/-- the first place from which on p holds, up to N -/
def IsFst (p : Int → Bool) (N r : Int) : Prop := 0 ≤ r ∧ r ≤ N ∧ (∀ x, 0 ≤ x → x < r → p x = false) ∧ (r < N → p r = true)
theorem IsFst.uniq {p : Int → Bool} {N r s : Int} (h : IsFst p N r) (k : IsFst p N s) : r = s := by
  obtain ⟨a1, a2, a3, a4⟩ := h
  obtain ⟨b1, b2, b3, b4⟩ := k
  rcases Int.lt_or_gt_of_ne (a := r) (b := s) |> fun f => (Decidable.em (r = s)).imp_right f with h | h | h
  · exact h
  · have h1 := a4 (by omega)
    rw [b3 r a1 h] at h1; cases h1
  · have h1 := b4 (by omega)
    rw [a3 s b1 h] at h1; cases h1
def fstN (p : Int → Bool) : Nat → Int
  | 0 => 0
  | n + 1 => if fstN p n < n then fstN p n else if p n then n else n + 1
theorem fstN_is (p : Int → Bool) (n : Nat) : IsFst p n (fstN p n) := by
  induction n with
  | zero => exact ⟨by simp [fstN], by simp [fstN], fun x h1 h2 => by simp [fstN] at h2; omega, fun h => by simp [fstN] at h⟩
  | succ n ih =>
    obtain ⟨h1, h2, h3, h4⟩ := ih
    rw [fstN]
    split
    · rename_i h
      exact ⟨h1, by omega, h3, fun _ => h4 h⟩
    · have he : fstN p n = n := by omega
      rw [he] at h3
      split
      · rename_i hp
        exact ⟨by omega, by omega, h3, fun _ => hp⟩
      · rename_i hp
        refine ⟨by omega, by omega, fun x hx1 hx2 => ?_, fun h => by omega⟩
        by_cases e : x = n
        · subst e; simpa using hp
        · exact h3 x hx1 (by omega)
theorem IsFst.eq {p : Int → Bool} {N r : Int} (h : IsFst p N r) : r = fstN p N.toNat := by
  have h0 : (N.toNat : Int) = N := Int.toNat_of_nonneg (Int.le_trans h.1 h.2.1)
  have := fstN_is p N.toNat
  rw [h0] at this
  exact h.uniq this
def Fst (p : Int → Bool) (N : Int) (w : World) (e : Ending) (w' : World) : Prop := ∃ r : Int, e = .returned (.int .i64 r) ∧ IsFst p N r ∧ Below w.heap.size w w'
def mfP (n : Nat) (xs : List Int) (a b c : Int) : Int → Bool := fun x => !(tkB n xs a b c (x + 1))
def mostV (n : Nat) (xs : List Int) (a b c : Int) : Int := if canB n xs a b c 0 then fstN (mfP n xs a b c) 1000000 else -1
theorem partV_mono {f g p : Int} (hf : 0 ≤ f) (hg : f ≤ g) (hg' : g ≤ 1000000) (hp : 0 ≤ p) (hp' : p ≤ 2000) : partV f p ≤ partV g p := by
  unfold partV
  rw [if_pos (by omega), if_pos (by omega)]
  have h := Int.mul_le_mul_of_nonneg_right hg hp
  have h0 := Int.mul_nonneg hf hp
  rw [Int.tdiv_eq_ediv_of_nonneg (by omega), Int.tdiv_eq_ediv_of_nonneg (by omega)]
  exact Int.ediv_le_ediv (by omega) (by omega)
theorem amV_mono {a b c f g : Int} (hd : dOk a b c = true) (hf : 0 ≤ f) (hg : f ≤ g) (hg' : g ≤ 1000000) (i : Nat) : (amV a b c f).getD i 0 ≤ (amV a b c g).getD i 0 := by
  simp only [dOk, decide_eq_true_eq] at hd
  have h1 := partV_mono (p := a) hf hg hg' (by omega) (by omega)
  have h2 := partV_mono (p := b) hf hg hg' (by omega) (by omega)
  have h3 := partV_mono (p := c) hf hg hg' (by omega) (by omega)
  match i with
  | 0 => simpa [amV] using hg
  | 1 => simpa [amV] using h1
  | 2 => simpa [amV] using h2
  | 3 => simpa [amV] using h3
  | n + 4 => simp [amV]
theorem can_other {n : Nat} {xs : List Int} {a b c f : Int} (h : canB n xs a b c 0 = true) (hf : 0 ≤ f) (hf' : f ≤ 1000000) : canB n xs a b c f = true := by
  simp only [canB, Bool.and_eq_true] at h ⊢
  exact ⟨h.1, h.2.1, inB_t ⟨hf, hf'⟩⟩
theorem tk_fm {n : Nat} {xs : List Int} {a b c f : Int} (h : canB n xs a b c f = true) : tkB n xs a b c f = decide (fmV n xs a b c f < 0) := by simp [tkB, fmV, h]
theorem mfP_mono {n : Nat} {xs : List Int} {a b c : Int} (h : canB n xs a b c 0 = true) : ∀ x y, 0 ≤ x → x ≤ y → y < 1000000 → mfP n xs a b c x = true → mfP n xs a b c y = true := by
  intro x y h0 hxy hy hx
  have c1 := can_other (f := x + 1) h (by omega) (by omega)
  have c2 := can_other (f := y + 1) h (by omega) (by omega)
  obtain ⟨_, _, hd, _, _⟩ := can_at h
  unfold mfP at hx ⊢
  cases hk : tkB n xs a b c (y + 1)
  · rfl
  · exfalso
    simp only [tkB, c2, Bool.true_and, decide_eq_true_eq] at hk
    have hall := fstP_neg.1 hk
    have : tkB n xs a b c (x + 1) = true := by
      simp only [tkB, c1, Bool.true_and, decide_eq_true_eq]
      refine fstP_neg.2 fun i hi => ?_
      have h1 := hall i hi
      have h2 := amV_mono (g := y + 1) hd (f := x + 1) (by omega) (by omega) (by omega) i
      unfold lessP at h1 ⊢
      simp only [decide_eq_false_iff_not] at h1 ⊢
      omega
    rw [this] at hx
    cases hx
theorem iMost1 (ad : Addr) (n cap bA bD : Nat) (xs : List Int) (a b c x : Int) (w : World) (hn : n ≤ 10000000) (h1 : 0 ≤ x) (h2 : x < 1000000) (kA : Blk w bA 27 #[.slice (some ad) n cap]) (kD : Blk w bD 35 #[.int .i64 a, .int .i64 b, .int .i64 c]) (hx : ReadsI w (some ad) n xs) :
    Calls Try.prog 47 #[.int .i64 x, .pointer (some ⟨bA, 0, none⟩), .pointer (some ⟨bD, 0, none⟩)] w (Val (.bool (mfP n xs a b c x)) w) := by
  have cA := kA.cell 0
  have c0 := kD.cell 0
  have c1 := kD.cell 1
  have c2 := kD.cell 2
  have HT := Lib.hid (iTakeFor ad n cap xs a b c (x + 1) w hn hx)
  have HV : Hid (mfP n xs a b c x = !(tkB n xs a b c (x + 1))) := Lib.hid rfl
  have hw : wrap64 (x + 1) = x + 1 := w64 (by omega)
  clear hx
  go_enter Try.func47, Try.ntmps47
  go_wp2_with fail
  refine HT.out.mono ?_
  rintro _ w1 ⟨g, c1, rfl, ho, hg, hb⟩
  generalize tkB n xs a b c (x + 1) = t at *
  clear ho hg
  go_wp2
  go_ret
  exact Val.mk' (v_bool HV.out.symm) (by (repeat (first | exact In.refl _ | assumption | apply In.alloc | apply In.drewN | apply In.drew | (refine In.step ?_ (by assumption)))))
theorem searchMost (b1 b2 : Nat) (p : Int → Bool) (N : Int) (w : World) (h0 : 0 ≤ N) (h1 : N ≤ 1000000000) (hm : ∀ a b, 0 ≤ a → a ≤ b → b < N → p a = true → p b = true)
    (hF : ∀ (i : Int) (w' : World), 0 ≤ i → i < N → In w.heap.size w w' → Calls Try.prog 47 #[.int .i64 i, .pointer (some ⟨b1, 0, none⟩), .pointer (some ⟨b2, 0, none⟩)] w' (Val (.bool (p i)) w')) :
    Calls Try.prog 46 #[.int .i64 N, .func (Fn.func 47) #[] #[.pointer (some ⟨b1, 0, none⟩), .pointer (some ⟨b2, 0, none⟩)]] w (Fst p N w) := by
  have HM := Lib.hid hm
  have HF := Lib.hid hF
  clear hm hF
  go_enter Try.func46, Try.ntmps46
  go_wp2
  go_loopw [5, 6] (fun s t wr => ∃ (i j : Int), 0 ≤ i ∧ i ≤ j ∧ j ≤ N ∧ s = .int .i64 i ∧ t = .int .i64 j ∧ In w.heap.size w wr ∧ (j < N → p j = true) ∧ ∀ x, 0 ≤ x → x < i → p x = false) (fun s t _ => (intOf t - intOf s).toNat)
  case atStart => exact ⟨0, N, by omega, by omega, by omega, rfl, rfl, by (repeat (first | exact In.refl _ | assumption | apply In.alloc | apply In.drewN | apply In.drew | (refine In.step ?_ (by assumption)))), fun h => by omega, fun x h1 h2 => by omega⟩
  case round =>
    obtain ⟨i, j, i1, i2, i3, rfl, rfl, hi, hj, hx⟩ := hrel
    have HJ := Lib.hid hj
    have HI := Lib.hid hx
    clear hj hx
    by_cases hlt : i < j
    · cases ht : p ((i + j) / 2)
      · have HTT := Lib.hid ht
        clear ht
        go_wp2_with fail
        refine (HF.out ((i + j) / 2) _ (by omega) (by omega) (by (repeat (first | exact In.refl _ | assumption | apply In.alloc | apply In.drewN | apply In.drew | (refine In.step ?_ (by assumption)))))).mono ?_
        rintro _ w1 ⟨rfl, hb1⟩
        rw [HTT.out]
        go_wp2
        go_roundw
        case rel => exact ⟨(i + j) / 2 + 1, j, by omega, by omega, by omega, rfl, rfl, by (repeat (first | exact In.refl _ | assumption | apply In.alloc | apply In.drewN | apply In.drew | (refine In.step ?_ (by assumption)))), HJ.out, fun x h1 h2 => by
          cases hp : p x
          · rfl
          · have := HM.out x ((i + j) / 2) h1 (by omega) (by omega) hp
            rw [HTT.out] at this; cases this⟩
        case measure => simp [intOf]; omega
      · have HTT := Lib.hid ht
        clear ht
        go_wp2_with fail
        refine (HF.out ((i + j) / 2) _ (by omega) (by omega) (by (repeat (first | exact In.refl _ | assumption | apply In.alloc | apply In.drewN | apply In.drew | (refine In.step ?_ (by assumption)))))).mono ?_
        rintro _ w1 ⟨rfl, hb1⟩
        rw [HTT.out]
        go_wp2
        go_roundw
        case rel => exact ⟨i, (i + j) / 2, by omega, by omega, by omega, rfl, rfl, by (repeat (first | exact In.refl _ | assumption | apply In.alloc | apply In.drewN | apply In.drew | (refine In.step ?_ (by assumption)))), fun _ => HTT.out, HI.out⟩
        case measure => simp [intOf]; omega
    · obtain rfl : i = j := by omega
      go_wp2
      go_ret
      exact ⟨i, rfl, ⟨i1, i3, HI.out, HJ.out⟩, In.below (by (repeat (first | exact In.refl _ | assumption | apply In.alloc | apply In.drewN | apply In.drew | (refine In.step ?_ (by assumption)))))⟩
theorem iMostFlour (ad : Addr) (n cap : Nat) (xs : List Int) (a b c : Int) (w : World) (hn : n ≤ 10000000) (hx : ReadsI w (some ad) n xs) : Calls Try.prog 20 #[.agg #[.slice (some ad) n cap], .agg #[.int .i64 a, .int .i64 b, .int .i64 c]] w (Val (.int .i64 (mostV n xs a b c)) w) := by
  have HX := Lib.hid hx
  have hlen := hx.1
  clear hx
  obtain ⟨b_A, hbx_A⟩ : ∃ b, b = w.heap.size := ⟨_, rfl⟩
  have kk_A : Blk ((w.alloc (.cells #[.slice (some ad) n cap] 27)).alloc (.cells #[.int .i64 a, .int .i64 b, .int .i64 c] 35)) b_A 27 #[.slice (some ad) n cap] := ((Blk.new' (w := w) (t := 27) (cs := #[.slice (some ad) n cap]) (g := b_A) (by simp [hbx_A])).alloc (.cells #[.int .i64 a, .int .i64 b, .int .i64 c] 35))
  have hwb_A : w.heap.size ≤ b_A := by omega
  obtain ⟨b_D, hbx_D⟩ : ∃ b, b = w.heap.size + 1 := ⟨_, rfl⟩
  have kk_D : Blk ((w.alloc (.cells #[.slice (some ad) n cap] 27)).alloc (.cells #[.int .i64 a, .int .i64 b, .int .i64 c] 35)) b_D 35 #[.int .i64 a, .int .i64 b, .int .i64 c] := (Blk.new' (w := (w.alloc (.cells #[.slice (some ad) n cap] 27))) (t := 35) (cs := #[.int .i64 a, .int .i64 b, .int .i64 c]) (g := b_D) (by simp [hbx_D]))
  have hwb_D : w.heap.size ≤ b_D := by omega
  have NB_A_D : Hid (b_A ≠ b_D) := Lib.hid (by omega)
  have hb_0 : Below w.heap.size w ((w.alloc (.cells #[.slice (some ad) n cap] 27)).alloc (.cells #[.int .i64 a, .int .i64 b, .int .i64 c] 35)) := by
    have h : In w.heap.size w ((w.alloc (.cells #[.slice (some ad) n cap] 27)).alloc (.cells #[.int .i64 a, .int .i64 b, .int .i64 c] 35)) := by (repeat (first | exact In.refl _ | assumption | apply In.alloc | apply In.drewN | apply In.drew | (refine In.step ?_ (by assumption))))
    exact h.below
  go_enter Try.func20, Try.ntmps20
  go_wp2_with fail
  rw [← hbx_D]
  clear hbx_D
  rw [← hbx_A]
  clear hbx_A
  generalize ((w.alloc (.cells #[.slice (some ad) n cap] 27)).alloc (.cells #[.int .i64 a, .int .i64 b, .int .i64 c] 35)) = w_0 at *
  have i_0 : In w.heap.size w w_0 := In.step (by (repeat (first | exact In.refl _ | assumption | apply In.alloc | apply In.drewN | apply In.drew | (refine In.step ?_ (by assumption))))) hb_0
  have k_0_A : Blk w_0 b_A 27 #[.slice (some ad) n cap] := kk_A
  have c_0_A_0 : w_0.cell? ⟨b_A, 0, none⟩ = some (.slice (some ad) n cap) := k_0_A.cell 0
  have l_0_A := k_0_A.lt
  have k_0_D : Blk w_0 b_D 35 #[.int .i64 a, .int .i64 b, .int .i64 c] := kk_D
  have c_0_D_0 : w_0.cell? ⟨b_D, 0, none⟩ = some (.int .i64 a) := k_0_D.cell 0
  have c_0_D_1 : w_0.cell? ⟨b_D, 1, none⟩ = some (.int .i64 b) := k_0_D.cell 1
  have c_0_D_2 : w_0.cell? ⟨b_D, 2, none⟩ = some (.int .i64 c) := k_0_D.cell 2
  have l_0_D := k_0_D.lt
  clear kk_A kk_D
  go_wp2_with fail
  refine (icanTake (some ad) n cap xs a b c 0 _ (by unfold maxLen; omega) (HX.out.below (In.below (by (repeat (first | exact In.refl _ | assumption | apply In.alloc | apply In.drewN | apply In.drew | (refine In.step ?_ (by assumption)))))) (Nat.le_refl _))).mono ?_
  rintro _ w_1 ⟨rfl, hb_1⟩
  have i_1 : In w.heap.size w w_1 := In.step (by (repeat (first | exact In.refl _ | assumption | apply In.alloc | apply In.drewN | apply In.drew | (refine In.step ?_ (by assumption))))) hb_1
  have k_1_A : Blk w_1 b_A 27 #[.slice (some ad) n cap] := Blk.step (by (with_reducible (repeat (first | assumption | exact Blk.new' (by simp) | apply Blk.drewN | apply Blk.drew | apply Blk.alloc | (refine Blk.far ?_ (by (try simp) <;> omega) _))))) hb_1
  have c_1_A_0 : w_1.cell? ⟨b_A, 0, none⟩ = some (.slice (some ad) n cap) := k_1_A.cell 0
  have l_1_A := k_1_A.lt
  have k_1_D : Blk w_1 b_D 35 #[.int .i64 a, .int .i64 b, .int .i64 c] := Blk.step (by (with_reducible (repeat (first | assumption | exact Blk.new' (by simp) | apply Blk.drewN | apply Blk.drew | apply Blk.alloc | (refine Blk.far ?_ (by (try simp) <;> omega) _))))) hb_1
  have c_1_D_0 : w_1.cell? ⟨b_D, 0, none⟩ = some (.int .i64 a) := k_1_D.cell 0
  have c_1_D_1 : w_1.cell? ⟨b_D, 1, none⟩ = some (.int .i64 b) := k_1_D.cell 1
  have c_1_D_2 : w_1.cell? ⟨b_D, 2, none⟩ = some (.int .i64 c) := k_1_D.cell 2
  have l_1_D := k_1_D.lt
  clear i_0 k_0_A c_0_A_0 l_0_A k_0_D c_0_D_0 c_0_D_1 c_0_D_2 l_0_D hb_0
  cases h1 : canB n xs a b c 0
  · have HV : Hid (mostV n xs a b c = -1) := Lib.hid (by simp [mostV, h1])
    go_wp2
    go_ret
    exact Val.mk' (v_int HV.out.symm) (by (repeat (first | exact In.refl _ | assumption | apply In.alloc | apply In.drewN | apply In.drew | (refine In.step ?_ (by assumption)))))
  have HV : Hid (mostV n xs a b c = fstN (mfP n xs a b c) 1000000) := Lib.hid (by simp [mostV, h1])
  have HM := Lib.hid (mfP_mono h1)
  clear h1
  have HF : Hid (∀ (x : Int) (W : World), 0 ≤ x → x < 1000000 → In w_1.heap.size w_1 W → Calls Try.prog 47 #[.int .i64 x, .pointer (some ⟨b_A, 0, none⟩), .pointer (some ⟨b_D, 0, none⟩)] W (Val (.bool (mfP n xs a b c x)) W)) := Lib.hid (fun x W p1 p2 p3 => iMost1 ad n cap b_A b_D xs a b c x W hn p1 p2 (k_1_A.step p3.below) (k_1_D.step p3.below) (HX.out.below (i_1.trans p3).below (Nat.le_refl _)))
  go_wp2_with fail
  refine (searchMost b_A b_D (mfP n xs a b c) 1000000 _ (by omega) (by omega) HM.out HF.out).mono ?_
  rintro _ w_2 ⟨r, rfl, hr, hb_2⟩
  have i_2 : In w.heap.size w w_2 := In.step (by (repeat (first | exact In.refl _ | assumption | apply In.alloc | apply In.drewN | apply In.drew | (refine In.step ?_ (by assumption))))) hb_2
  have k_2_A : Blk w_2 b_A 27 #[.slice (some ad) n cap] := Blk.step (by (with_reducible (repeat (first | assumption | exact Blk.new' (by simp) | apply Blk.drewN | apply Blk.drew | apply Blk.alloc | (refine Blk.far ?_ (by (try simp) <;> omega) _))))) hb_2
  have c_2_A_0 : w_2.cell? ⟨b_A, 0, none⟩ = some (.slice (some ad) n cap) := k_2_A.cell 0
  have l_2_A := k_2_A.lt
  have k_2_D : Blk w_2 b_D 35 #[.int .i64 a, .int .i64 b, .int .i64 c] := Blk.step (by (with_reducible (repeat (first | assumption | exact Blk.new' (by simp) | apply Blk.drewN | apply Blk.drew | apply Blk.alloc | (refine Blk.far ?_ (by (try simp) <;> omega) _))))) hb_2
  have c_2_D_0 : w_2.cell? ⟨b_D, 0, none⟩ = some (.int .i64 a) := k_2_D.cell 0
  have c_2_D_1 : w_2.cell? ⟨b_D, 1, none⟩ = some (.int .i64 b) := k_2_D.cell 1
  have c_2_D_2 : w_2.cell? ⟨b_D, 2, none⟩ = some (.int .i64 c) := k_2_D.cell 2
  have l_2_D := k_2_D.lt
  clear i_1 k_1_A c_1_A_0 l_1_A k_1_D c_1_D_0 c_1_D_1 c_1_D_2 l_1_D hb_1
  have HR := Lib.hid hr.eq
  clear hr
  go_wp2
  go_ret
  exact Val.mk' (v_int (by rw [HV.out, HR.out]; rfl)) (by (repeat (first | exact In.refl _ | assumption | apply In.alloc | apply In.drewN | apply In.drew | (refine In.step ?_ (by assumption)))))
theorem sMostFlour (ad : Addr) (n cap : Nat) (xs : List Int) (a b c : Int) (w : World) (hn : n ≤ 10000000) (hx : ReadsI w (some ad) n xs) : Calls Try.prog 19 #[.agg #[.slice (some ad) n cap], .agg #[.int .i64 a, .int .i64 b, .int .i64 c]] w (Val (.int .i64 (mostV n xs a b c)) w) := by
  have HX := Lib.hid hx
  have hlen := hx.1
  clear hx
  obtain ⟨b_A, hbx_A⟩ : ∃ b, b = w.heap.size := ⟨_, rfl⟩
  have kk_A : Blk ((w.alloc (.cells #[.slice (some ad) n cap] 27)).alloc (.cells #[.int .i64 a, .int .i64 b, .int .i64 c] 35)) b_A 27 #[.slice (some ad) n cap] := ((Blk.new' (w := w) (t := 27) (cs := #[.slice (some ad) n cap]) (g := b_A) (by simp [hbx_A])).alloc (.cells #[.int .i64 a, .int .i64 b, .int .i64 c] 35))
  have hwb_A : w.heap.size ≤ b_A := by omega
  obtain ⟨b_D, hbx_D⟩ : ∃ b, b = w.heap.size + 1 := ⟨_, rfl⟩
  have kk_D : Blk ((w.alloc (.cells #[.slice (some ad) n cap] 27)).alloc (.cells #[.int .i64 a, .int .i64 b, .int .i64 c] 35)) b_D 35 #[.int .i64 a, .int .i64 b, .int .i64 c] := (Blk.new' (w := (w.alloc (.cells #[.slice (some ad) n cap] 27))) (t := 35) (cs := #[.int .i64 a, .int .i64 b, .int .i64 c]) (g := b_D) (by simp [hbx_D]))
  have hwb_D : w.heap.size ≤ b_D := by omega
  have NB_A_D : Hid (b_A ≠ b_D) := Lib.hid (by omega)
  have hb_0 : Below w.heap.size w ((w.alloc (.cells #[.slice (some ad) n cap] 27)).alloc (.cells #[.int .i64 a, .int .i64 b, .int .i64 c] 35)) := by
    have h : In w.heap.size w ((w.alloc (.cells #[.slice (some ad) n cap] 27)).alloc (.cells #[.int .i64 a, .int .i64 b, .int .i64 c] 35)) := by (repeat (first | exact In.refl _ | assumption | apply In.alloc | apply In.drewN | apply In.drew | (refine In.step ?_ (by assumption))))
    exact h.below
  go_enter Try.func19, Try.ntmps19
  go_wp2_with fail
  rw [← hbx_D]
  clear hbx_D
  rw [← hbx_A]
  clear hbx_A
  generalize ((w.alloc (.cells #[.slice (some ad) n cap] 27)).alloc (.cells #[.int .i64 a, .int .i64 b, .int .i64 c] 35)) = w_0 at *
  have i_0 : In w.heap.size w w_0 := In.step (by (repeat (first | exact In.refl _ | assumption | apply In.alloc | apply In.drewN | apply In.drew | (refine In.step ?_ (by assumption))))) hb_0
  have k_0_A : Blk w_0 b_A 27 #[.slice (some ad) n cap] := kk_A
  have c_0_A_0 : w_0.cell? ⟨b_A, 0, none⟩ = some (.slice (some ad) n cap) := k_0_A.cell 0
  have l_0_A := k_0_A.lt
  have k_0_D : Blk w_0 b_D 35 #[.int .i64 a, .int .i64 b, .int .i64 c] := kk_D
  have c_0_D_0 : w_0.cell? ⟨b_D, 0, none⟩ = some (.int .i64 a) := k_0_D.cell 0
  have c_0_D_1 : w_0.cell? ⟨b_D, 1, none⟩ = some (.int .i64 b) := k_0_D.cell 1
  have c_0_D_2 : w_0.cell? ⟨b_D, 2, none⟩ = some (.int .i64 c) := k_0_D.cell 2
  have l_0_D := k_0_D.lt
  clear kk_A kk_D
  go_wp2_with fail
  refine (sStoreOk (some ad) n cap xs _ (by unfold maxLen; omega) (HX.out.below (In.below (by (repeat (first | exact In.refl _ | assumption | apply In.alloc | apply In.drewN | apply In.drew | (refine In.step ?_ (by assumption)))))) (Nat.le_refl _))).mono ?_
  rintro _ w_1 ⟨rfl, hb_1⟩
  have i_1 : In w.heap.size w w_1 := In.step (by (repeat (first | exact In.refl _ | assumption | apply In.alloc | apply In.drewN | apply In.drew | (refine In.step ?_ (by assumption))))) hb_1
  have k_1_A : Blk w_1 b_A 27 #[.slice (some ad) n cap] := Blk.step (by (with_reducible (repeat (first | assumption | exact Blk.new' (by simp) | apply Blk.drewN | apply Blk.drew | apply Blk.alloc | (refine Blk.far ?_ (by (try simp) <;> omega) _))))) hb_1
  have c_1_A_0 : w_1.cell? ⟨b_A, 0, none⟩ = some (.slice (some ad) n cap) := k_1_A.cell 0
  have l_1_A := k_1_A.lt
  have k_1_D : Blk w_1 b_D 35 #[.int .i64 a, .int .i64 b, .int .i64 c] := Blk.step (by (with_reducible (repeat (first | assumption | exact Blk.new' (by simp) | apply Blk.drewN | apply Blk.drew | apply Blk.alloc | (refine Blk.far ?_ (by (try simp) <;> omega) _))))) hb_1
  have c_1_D_0 : w_1.cell? ⟨b_D, 0, none⟩ = some (.int .i64 a) := k_1_D.cell 0
  have c_1_D_1 : w_1.cell? ⟨b_D, 1, none⟩ = some (.int .i64 b) := k_1_D.cell 1
  have c_1_D_2 : w_1.cell? ⟨b_D, 2, none⟩ = some (.int .i64 c) := k_1_D.cell 2
  have l_1_D := k_1_D.lt
  clear i_0 k_0_A c_0_A_0 l_0_A k_0_D c_0_D_0 c_0_D_1 c_0_D_2 l_0_D hb_0
  cases hs : stB n xs
  · have HV : Hid (mostV n xs a b c = -1) := Lib.hid (by simp [mostV, canB, hs])
    go_wp2
    go_ret
    exact Val.mk' (v_int HV.out.symm) (by (repeat (first | exact In.refl _ | assumption | apply In.alloc | apply In.drewN | apply In.drew | (refine In.step ?_ (by assumption)))))
  go_wp2_with fail
  refine (sDoughOk a b c _).mono ?_
  rintro _ w_2 ⟨rfl, hb_2⟩
  have i_2 : In w.heap.size w w_2 := In.step (by (repeat (first | exact In.refl _ | assumption | apply In.alloc | apply In.drewN | apply In.drew | (refine In.step ?_ (by assumption))))) hb_2
  have k_2_A : Blk w_2 b_A 27 #[.slice (some ad) n cap] := Blk.step (by (with_reducible (repeat (first | assumption | exact Blk.new' (by simp) | apply Blk.drewN | apply Blk.drew | apply Blk.alloc | (refine Blk.far ?_ (by (try simp) <;> omega) _))))) hb_2
  have c_2_A_0 : w_2.cell? ⟨b_A, 0, none⟩ = some (.slice (some ad) n cap) := k_2_A.cell 0
  have l_2_A := k_2_A.lt
  have k_2_D : Blk w_2 b_D 35 #[.int .i64 a, .int .i64 b, .int .i64 c] := Blk.step (by (with_reducible (repeat (first | assumption | exact Blk.new' (by simp) | apply Blk.drewN | apply Blk.drew | apply Blk.alloc | (refine Blk.far ?_ (by (try simp) <;> omega) _))))) hb_2
  have c_2_D_0 : w_2.cell? ⟨b_D, 0, none⟩ = some (.int .i64 a) := k_2_D.cell 0
  have c_2_D_1 : w_2.cell? ⟨b_D, 1, none⟩ = some (.int .i64 b) := k_2_D.cell 1
  have c_2_D_2 : w_2.cell? ⟨b_D, 2, none⟩ = some (.int .i64 c) := k_2_D.cell 2
  have l_2_D := k_2_D.lt
  clear i_1 k_1_A c_1_A_0 l_1_A k_1_D c_1_D_0 c_1_D_1 c_1_D_2 l_1_D hb_1
  cases hd : dOk a b c
  · have HV : Hid (mostV n xs a b c = -1) := Lib.hid (by simp [mostV, canB, hd])
    go_wp2
    go_ret
    exact Val.mk' (v_int HV.out.symm) (by (repeat (first | exact In.refl _ | assumption | apply In.alloc | apply In.drewN | apply In.drew | (refine In.step ?_ (by assumption)))))
  have h1 : canB n xs a b c 0 = true := by simp [canB, hs, hd, inB]
  have HV : Hid (mostV n xs a b c = fstN (mfP n xs a b c) 1000000) := Lib.hid (by simp [mostV, h1])
  have HM := Lib.hid (mfP_mono h1)
  have HT : Hid (∀ m, 1 ≤ m → m ≤ 1000000 → mfP n xs a b c (m - 1) = !(decide (fmV n xs a b c m < 0))) := Lib.hid (fun m p1 p2 => by have h := tk_fm (can_other (f := m) h1 (by omega) p2); rw [← h]; show (!tkB n xs a b c (m - 1 + 1)) = _; rw [show m - 1 + 1 = m by omega])
  clear h1 hs hd
  go_wp2
  go_loopw [5, 6] (fun s t wr => ∃ (i j : Int), 0 ≤ i ∧ i ≤ j ∧ j ≤ 1000000 ∧ s = .int .i64 i ∧ t = .int .i64 j ∧ In w_2.heap.size w_2 wr ∧ (j < 1000000 → mfP n xs a b c j = true) ∧ ∀ x, 0 ≤ x → x < i → mfP n xs a b c x = false) (fun s t _ => (intOf t - intOf s).toNat)
  case atStart => exact ⟨0, 1000000, by omega, by omega, by omega, rfl, rfl, In.refl _, fun h => by omega, fun x h1 h2 => by omega⟩
  case round =>
    obtain ⟨i, j, i1, i2, i3, rfl, rfl, hi, hj, hx⟩ := hrel
    have HJ := Lib.hid hj
    have HI := Lib.hid hx
    clear hj hx
    have kA := k_2_A.step hi.below
    have kD := k_2_D.step hi.below
    have cA := kA.cell 0
    have cD0 := kD.cell 0
    have cD1 := kD.cell 1
    have cD2 := kD.cell 2
    have i4 : In w.heap.size w wr := i_2.trans hi
    by_cases hlt : i < j
    · obtain ⟨m, hm⟩ : ∃ m, (i + j + 1) / 2 = m := ⟨_, rfl⟩
      have m1 : i < m := by omega
      have m2 : m ≤ j := by omega
      have hT := HT.out m (by omega) (by omega)
      have HMM := Lib.hid hm
      have e1 : wrap64 (i + j) = i + j := w64 (by omega)
      have e2 : wrap64 (i + j + 1) = i + j + 1 := w64 (by omega)
      have e3 : (i + j + 1).tdiv 2 = m := by rw [Int.tdiv_eq_ediv_of_nonneg (by omega)]; exact hm
      have e4 : wrap64 m = m := w64 (by omega)
      clear hm
      go_wp2_with fail
      refine (sFirstMissing ad n cap xs a b c m _ (by omega) (HX.out.below (In.below (by (repeat (first | exact In.refl _ | assumption | apply In.alloc | apply In.drewN | apply In.drew | (refine In.step ?_ (by assumption)))))) (Nat.le_refl _))).mono ?_
      rintro _ w2 ⟨rfl, hb2⟩
      have i5 : In w_2.heap.size w_2 w2 := hi.step hb2
      by_cases hf : fmV n xs a b c m < 0
      · have hp : mfP n xs a b c (m - 1) = false := by rw [hT, decide_eq_true hf]; rfl
        have HP := Lib.hid hp
        clear hT hp
        generalize fmV n xs a b c m = q at *
        go_wp2
        go_roundw
        case rel => exact ⟨m, j, by omega, by omega, by omega, rfl, rfl, i5, HJ.out, fun x h1 h2 => by
          cases hp : mfP n xs a b c x
          · rfl
          · have := HM.out x (m - 1) h1 (by omega) (by omega) hp
            rw [HP.out] at this; cases this⟩
        case measure => simp [intOf]; omega
      · have hp : mfP n xs a b c (m - 1) = true := by rw [hT, decide_eq_false hf]; rfl
        have HP := Lib.hid hp
        clear hT hp
        generalize fmV n xs a b c m = q at *
        have hf2 : 0 ≤ q := by omega
        have e5 : wrap64 (m - 1) = m - 1 := w64 (by omega)
        go_wp2
        go_roundw
        case rel => exact ⟨i, m - 1, by omega, by omega, by omega, rfl, rfl, i5, fun _ => HP.out, HI.out⟩
        case measure => simp [intOf]; omega
    · obtain rfl : i = j := by omega
      have HR : Hid (i = fstN (mfP n xs a b c) 1000000) := Lib.hid (IsFst.eq (N := 1000000) ⟨i1, i3, HI.out, HJ.out⟩)
      go_wp2
      go_ret
      exact Val.mk' (v_int (by rw [HV.out, ← HR.out])) (by (repeat (first | exact In.refl _ | assumption | apply In.alloc | apply In.drewN | apply In.drew | (refine In.step ?_ (by assumption)))))
end Go.Proofs.Ythadanmiomeehaa
