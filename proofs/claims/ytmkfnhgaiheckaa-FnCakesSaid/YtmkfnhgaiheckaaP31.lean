/- Chapter 31: BestShares: the values, the program. -/
import Derived.Test.YtmkfnhgaiheckaaB31
namespace Go.Proofs.Ytmkfnhgaiheckaa
open Go.ChangeShapes Go.WideShapes Go.ChangeAt Go.RowKit
set_option linter.unusedVariables false
set_option linter.unusedSimpArgs false
set_option maxHeartbeats 2000000

/-- the first place from which on p holds, up to N -/
def IsFst (p : Int → Bool) (N r : Int) : Prop := 0 ≤ r ∧ r ≤ N ∧ (∀ x, 0 ≤ x → x < r → p x = false) ∧ (r < N → p r = true)
theorem IsFst.uniq {p : Int → Bool} {N r s : Int} (h : IsFst p N r) (k : IsFst p N s) : r = s := by
  obtain ⟨a1, a2, a3, a4⟩ := h
  obtain ⟨b1, b2, b3, b4⟩ := k
  rcases Int.lt_or_gt_of_ne (a := r) (b := s) |> fun f => (Decidable.em (r = s)).imp_right f with h | h | h
  · exact h
  · have h1 := a4 (by omega)
    rw [b3 r a1 h] at h1; cases h1
  · have h1 := b4 (by omega)
    rw [a3 s b1 h] at h1; cases h1
def fstN (p : Int → Bool) : Nat → Int
  | 0 => 0
  | n + 1 => if fstN p n < n then fstN p n else if p n then n else n + 1
theorem fstN_is (p : Int → Bool) (n : Nat) : IsFst p n (fstN p n) := by
  induction n with
  | zero => exact ⟨by simp [fstN], by simp [fstN], fun x h1 h2 => by simp [fstN] at h2; omega, fun h => by simp [fstN] at h⟩
  | succ n ih =>
    obtain ⟨h1, h2, h3, h4⟩ := ih
    rw [fstN]
    split
    · rename_i h
      exact ⟨h1, by omega, h3, fun _ => h4 h⟩
    · have he : fstN p n = n := by omega
      rw [he] at h3
      split
      · rename_i hp
        exact ⟨by omega, by omega, h3, fun _ => hp⟩
      · rename_i hp
        refine ⟨by omega, by omega, fun x hx1 hx2 => ?_, fun h => by omega⟩
        by_cases e : x = n
        · subst e; simpa using hp
        · exact h3 x hx1 (by omega)
theorem IsFst.eq {p : Int → Bool} {N r : Int} (h : IsFst p N r) : r = fstN p N.toNat := by
  have h0 : (N.toNat : Int) = N := Int.toNat_of_nonneg (Int.le_trans h.1 h.2.1)
  have := fstN_is p N.toNat
  rw [h0] at this
  exact h.uniq this
def Fst (p : Int → Bool) (N : Int) (w : World) (e : Ending) (w' : World) : Prop := ∃ r : Int, e = .returned (.int .i64 r) ∧ IsFst p N r ∧ Below w.heap.size w w'
def noP (n : Nat) (xs : List Int) (N v : Int) : Bool := !decide (N ≤ ((ctS (geP v) xs n).2.length : Int))
def bestV (n : Nat) (xs : List Int) (N : Int) : Int := if (cakeB n xs && inB N 1 10) = true then fstN (noP n xs N) (lsum xs n + 1).toNat - 1 else -1
theorem ct_mono {xs : List Int} {n : Nat} (h : ∀ i, i < n → 0 ≤ xs.getD i 0 ∧ xs.getD i 0 ≤ 1000) {a b : Int} (hab : a ≤ b) : ∀ k : Nat, k ≤ n → (ctS (geP b) xs k).2.length < (ctS (geP a) xs k).2.length ∨ ((ctS (geP b) xs k).2.length = (ctS (geP a) xs k).2.length ∧ (ctS (geP b) xs k).1 ≤ (ctS (geP a) xs k).1)
  | 0, _ => .inr ⟨rfl, by simp [ctS]⟩
  | k + 1, hk => by
    have ih := ct_mono h hab k (by omega)
    have h1 := (h k (by omega)).1
    have h2 := (ct_sum (P := geP a) h k (by omega)).1
    rw [ctS, ctS]
    generalize ctS (geP a) xs k = A at *
    generalize ctS (geP b) xs k = B at *
    generalize xs.getD k 0 = x at *
    obtain ⟨s, L⟩ := A
    obtain ⟨t, M⟩ := B
    simp only [geP, decide_eq_true_eq] at *
    by_cases e1 : b ≤ t + x
    · by_cases e2 : a ≤ s + x
      · rw [if_pos e1, if_pos e2]; simp; omega
      · rw [if_pos e1, if_neg e2]; simp; omega
    · by_cases e2 : a ≤ s + x
      · rw [if_neg e1, if_pos e2]; simp; omega
      · rw [if_neg e1, if_neg e2]; simp; omega
theorem noP_mono {n : Nat} {xs : List Int} {N : Int} (h : ∀ i, i < n → 0 ≤ xs.getD i 0 ∧ xs.getD i 0 ≤ 1000) {a b : Int} (hab : a ≤ b) (ha : noP n xs N a = true) : noP n xs N b = true := by
  have h1 := ct_mono h hab n (Nat.le_refl _)
  simp only [noP, Bool.not_eq_true', decide_eq_false_iff_not] at ha ⊢
  omega
theorem ct_zero {xs : List Int} {n : Nat} (h : ∀ i, i < n → 0 ≤ xs.getD i 0 ∧ xs.getD i 0 ≤ 1000) : ∀ k : Nat, k ≤ n → (ctS (geP 0) xs k).1 = 0 ∧ (ctS (geP 0) xs k).2.length = k
  | 0, _ => ⟨rfl, rfl⟩
  | k + 1, hk => by
    have ih := ct_zero h k (by omega)
    have h1 := (h k (by omega)).1
    rw [ctS_t (by simp only [geP, decide_eq_true_eq]; omega)]
    simp [ih.2]
theorem best_of {n : Nat} {xs : List Int} {N r : Int} (h : (cakeB n xs && inB N 1 10) = true) (hr : IsFst (noP n xs N) (lsum xs n + 1) r) : bestV n xs N = r - 1 := by
  rw [bestV, if_pos h, ← hr.eq]
theorem best_few {n : Nat} {xs : List Int} {N : Int} (hN : (n : Int) < N) : bestV n xs N = -1 := by
  rw [bestV]
  split
  · rename_i h
    obtain ⟨h2, h3⟩ : cakeB n xs = true ∧ inB N 1 10 = true := by simpa using h
    obtain ⟨n1, n40, hs⟩ := cake_at h2
    have hW := lsum_in 1000 hs
    have : IsFst (noP n xs N) (lsum xs n + 1) 0 := ⟨by omega, by omega, fun x h1 h2 => by omega, fun _ => by
      have := ct_len (geP 0) xs n
      simp only [noP, Bool.not_eq_true', decide_eq_false_iff_not]; omega⟩
    rw [← this.eq]; rfl
  · rfl
theorem iSearchBest (b2 b3 : Nat) (p : Int → Bool) (N : Int) (w : World) (h0 : 0 ≤ N) (h1 : N ≤ 1000000000) (hm : ∀ a b, 0 ≤ a → a ≤ b → b < N → p a = true → p b = true)
    (hF : ∀ (i : Int) (w' : World), 0 ≤ i → i < N → In w.heap.size w w' → Calls Try.prog 118 #[.int .i64 i, .pointer (some ⟨b2, 0, none⟩), .pointer (some ⟨b3, 0, none⟩)] w' (Val (.bool (p i)) w')) :
    Calls Try.prog 117 #[.int .i64 N, .func (Fn.func 118) #[] #[.pointer (some ⟨b2, 0, none⟩), .pointer (some ⟨b3, 0, none⟩)]] w (Fst p N w) := by
  have HM := Lib.hid hm
  have HF := Lib.hid hF
  clear hm hF
  go_enter Try.func117, Try.ntmps117
  go_wp2
  go_loopw [5, 6] (fun s t wr => ∃ (i j : Int), 0 ≤ i ∧ i ≤ j ∧ j ≤ N ∧ s = .int .i64 i ∧ t = .int .i64 j ∧ In w.heap.size w wr ∧ (j < N → p j = true) ∧ ∀ x, 0 ≤ x → x < i → p x = false) (fun s t _ => (intOf t - intOf s).toNat)
  case atStart => exact ⟨0, N, by omega, by omega, by omega, rfl, rfl, by (repeat (first | exact In.refl _ | assumption | apply In.alloc | apply In.drewN | apply In.drew | (refine In.step ?_ (by assumption)))), fun h => by omega, fun x h1 h2 => by omega⟩
  case round =>
    obtain ⟨i, j, i1, i2, i3, rfl, rfl, hi, hj, hx⟩ := hrel
    have HJ := Lib.hid hj
    have HI := Lib.hid hx
    clear hj hx
    by_cases hlt : i < j
    · cases ht : p ((i + j) / 2)
      · have HTT := Lib.hid ht
        clear ht
        go_wp2_with fail
        refine (HF.out ((i + j) / 2) _ (by omega) (by omega) (by (repeat (first | exact In.refl _ | assumption | apply In.alloc | apply In.drewN | apply In.drew | (refine In.step ?_ (by assumption)))))).mono ?_
        rintro _ w1 ⟨rfl, hb1⟩
        rw [HTT.out]
        go_wp2
        go_roundw
        case rel => exact ⟨(i + j) / 2 + 1, j, by omega, by omega, by omega, rfl, rfl, by (repeat (first | exact In.refl _ | assumption | apply In.alloc | apply In.drewN | apply In.drew | (refine In.step ?_ (by assumption)))), HJ.out, fun x h1 h2 => by
          cases hp : p x
          · rfl
          · have := HM.out x ((i + j) / 2) h1 (by omega) (by omega) hp
            rw [HTT.out] at this; cases this⟩
        case measure => simp [intOf]; omega
      · have HTT := Lib.hid ht
        clear ht
        go_wp2_with fail
        refine (HF.out ((i + j) / 2) _ (by omega) (by omega) (by (repeat (first | exact In.refl _ | assumption | apply In.alloc | apply In.drewN | apply In.drew | (refine In.step ?_ (by assumption)))))).mono ?_
        rintro _ w1 ⟨rfl, hb1⟩
        rw [HTT.out]
        go_wp2
        go_roundw
        case rel => exact ⟨i, (i + j) / 2, by omega, by omega, by omega, rfl, rfl, by (repeat (first | exact In.refl _ | assumption | apply In.alloc | apply In.drewN | apply In.drew | (refine In.step ?_ (by assumption)))), fun _ => HTT.out, HI.out⟩
        case measure => simp [intOf]; omega
    · obtain rfl : i = j := by omega
      go_wp2
      go_ret
      exact ⟨i, rfl, ⟨i1, i3, HI.out, HJ.out⟩, In.below (by (repeat (first | exact In.refl _ | assumption | apply In.alloc | apply In.drewN | apply In.drew | (refine In.step ?_ (by assumption)))))⟩
set_option maxRecDepth 20000 in
set_option maxHeartbeats 8000000 in
theorem iBe2 (A : Option Addr) (n c : Nat) (xs : List Int) (N v : Int) (b2 b3 : Nat) (w : World) (hn1 : 1 ≤ n) (hn : n ≤ 40) (hc : n ≤ c) (hcm : c ≤ maxLen) (hs : ∀ i, i < n → 0 ≤ xs.getD i 0 ∧ xs.getD i 0 ≤ 1000) (hN : 1 ≤ N ∧ N ≤ 10) (hx : ReadsI w A n xs) (c2 : w.cell? ⟨b2, 0, none⟩ = some (.slice A n c)) (c3 : w.cell? ⟨b3, 0, none⟩ = some (.int .i64 N)) :
    Calls Try.prog 118 #[.int .i64 v, .pointer (some ⟨b2, 0, none⟩), .pointer (some ⟨b3, 0, none⟩)] w (Val (.bool (noP n xs N v)) w) := by
  unfold noP
  obtain ⟨RB, hRB⟩ : ∃ RB, decide (N ≤ ((ctS (geP v) xs n).2.length : Int)) = RB := ⟨_, rfl⟩
  obtain ⟨RL, hRL⟩ : ∃ RL, (if N ≤ ((ctS (geP v) xs n).2.length : Int) then (ctS (geP v) xs n).2.take (N.toNat - 1) else []) = RL := ⟨_, rfl⟩
  have i1 := (In.refl w).alloc (.cells #[.int .i64 v] 3)
  have e2 := cell9a (o := .cells #[.int .i64 v] 3) c2
  have e3 := cell9a (o := .cells #[.int .i64 v] 3) c3
  have HC := Lib.hid (icutBest A n c xs N v w.heap.size _ hn1 hn hc hcm hs hN (reads_in hx i1) (cell9n w _ _) RL RB (Lib.hid hRL) (Lib.hid hRB))
  have I1 := Lib.hid i1
  rw [hRB]
  clear i1 hx hs hN hRB hRL hcm
  go_enter Try.func118, Try.ntmps118
  go_wp2_with fail
  refine HC.out.mono ?_
  rintro _ w9 ⟨B, d, rfl, hown, hb⟩
  go_wp2
  go_ret
  exact Val.mk' rfl (I1.out.step hb)
set_option maxRecDepth 20000 in
set_option maxHeartbeats 8000000 in
theorem iBestShares (A : Option Addr) (n c : Nat) (xs : List Int) (N : Int) (w : World) (hn : n ≤ maxLen) (hcp : n ≤ c) (hcm : c ≤ maxLen) (hx : ReadsI w A n xs) : Calls Try.prog 35 #[.slice A n c, .int .i64 N] w (Val (i64 (bestV n xs N)) w) := by
  have HX2 := Lib.hid (fun W (h : ReadsI W A n xs) => icanShare A n c xs N W hn h)
  have i1 := (In.refl w).alloc (.cells #[.slice A n c] 43)
  have i2 := i1.alloc (.cells #[.int .i64 N] 3)
  cases h1 : (cakeB n xs && inB N 1 10)
  · have HB : Hid (bestV n xs N = -1) := Lib.hid (by simp [bestV, h1])
    rw [h1] at HX2
    have HF := Lib.hid (HX2.out _ (reads_in hx i2))
    clear hx h1 HX2
    go_enter Try.func35, Try.ntmps35
    go_wp2_with fail
    refine HF.out.mono ?_
    rintro _ _ ⟨rfl, rfl⟩
    go_wp2
    go_ret
    exact Val.mk' (v_int HB.out.symm) i2
  obtain ⟨h2, h3⟩ : cakeB n xs = true ∧ inB N 1 10 = true := by simpa using h1
  obtain ⟨n1, n40, hs⟩ := cake_at h2
  obtain ⟨N1, N10⟩ := inB_tt h3
  have hW := lsum_in 1000 hs
  have HBV := Lib.hid (fun r hr => best_of (r := r) h1 hr)
  rw [h1] at HX2
  have HF := Lib.hid (HX2.out _ (reads_in hx i2))
  have HSU := Lib.hid (isumOf A n c xs _ (by omega) (wide9 hs) (reads_in hx i2))
  have k1 : ((w.alloc (.cells #[.slice A n c] 43)).alloc (.cells #[.int .i64 N] 3)).cell? ⟨w.heap.size, 0, none⟩ = some (.slice A n c) := cell9a (cell9n w _ _)
  have k2 : ((w.alloc (.cells #[.slice A n c] 43)).alloc (.cells #[.int .i64 N] 3)).cell? ⟨w.heap.size + 1, 0, none⟩ = some (.int .i64 N) := by
    have := cell9n (w.alloc (.cells #[.slice A n c] 43)) (.int .i64 N) 3
    rwa [show (w.alloc (.cells #[.slice A n c] 43)).heap.size = w.heap.size + 1 by simp] at this
  obtain ⟨w2, hw2⟩ : ∃ w2, (w.alloc (.cells #[.slice A n c] 43)).alloc (.cells #[.int .i64 N] 3) = w2 := ⟨_, rfl⟩
  have HW2 := Lib.hid hw2
  rw [hw2] at k1 k2 i2 HF HSU
  obtain ⟨W, hWW⟩ : ∃ W, lsum xs n = W := ⟨_, rfl⟩
  rw [hWW] at hW HSU HBV
  have hW2 : 0 ≤ W ∧ W ≤ 40000 := by omega
  have hr2 : ReadsI w2 A n xs := reads_in hx i2
  have HSE := Lib.hid (iSearchBest w.heap.size (w.heap.size + 1) (noP n xs N) (W + 1) w2 (by omega) (by omega) (fun a b _ hab _ ha => noP_mono hs hab ha) (fun i w' _ _ hi => iBe2 A n c xs N i _ _ w' n1 n40 hcp hcm hs ⟨N1, N10⟩ (hr2.below hi.below (Nat.le_refl _)) (cell_in k1 hi) (cell_in k2 hi)))
  have I2 := Lib.hid i2
  have K1 := Lib.hid k1
  have K2 := Lib.hid k2
  clear hx h1 h2 h3 hs hW hWW i1 i2 hr2 hw2 HX2 k1 k2
  go_enter Try.func35, Try.ntmps35
  go_wp2_with fail
  rw [HW2.out]
  have k1 := K1.out
  have k2 := K2.out
  refine HF.out.mono ?_
  rintro _ _ ⟨rfl, rfl⟩
  go_wp2_with fail
  refine HSU.out.mono ?_
  rintro _ _ ⟨rfl, rfl⟩
  go_wp2_with fail
  refine HSE.out.mono ?_
  rintro _ w9 ⟨r, rfl, hr, hb⟩
  have hr0 := hr.1
  have hr1 := hr.2.1
  have HR := Lib.hid hr
  clear hr
  go_wp2
  go_ret
  exact Val.mk' (v_int (HBV.out r HR.out).symm) (I2.out.step hb)
end Go.Proofs.Ytmkfnhgaiheckaa
