/- Chapter 12: BestWant. -/
import Derived.Test.YtjcmdmiafeaeoadB12
import Derived.Test.YtjcmdmiafeaeoadGi
import Derived.Test.YtjcmdmiafeaeoadWays
namespace Go.Proofs.Ytjcmdmiafeaeoad
open Go.ChangeShapes Go.WideShapes Go.ChangeAt Go.RowKit
set_option linter.unusedVariables false
set_option linter.unusedSimpArgs false

def bN (n : Nat) (xs : List Int) (d t : Int) : Nat := (idxTo (badP xs t d) n).length
theorem bN_le (n : Nat) (xs : List Int) (d t : Int) : bN n xs d t ≤ n := idxTo_len _ _
theorem idxTo_mono {p q : Nat → Bool} (n : Nat) (h : ∀ i, i < n → p i = true → q i = true) : (idxTo p n).length ≤ (idxTo q n).length := by
  induction n with
  | zero => simp [idxTo]
  | succ n ih =>
    have h1 := ih fun i hi => h i (by omega)
    cases hp : p n
    · rw [idxTo_f hp]
      cases hq : q n
      · rw [idxTo_f hq]; exact h1
      · rw [idxTo_t hq, List.length_append]; omega
    · rw [idxTo_t hp, idxTo_t (h n (by omega) hp), List.length_append, List.length_append]
      simp only [List.length_singleton]; omega
theorem idxTo_all {p : Nat → Bool} (n : Nat) (h : n ≤ (idxTo p n).length) : ∀ i, i < n → p i = true := by
  induction n with
  | zero => intro i hi; omega
  | succ n ih =>
    intro i hi
    cases hp : p n
    · rw [idxTo_f hp] at h
      have := idxTo_len p n
      omega
    · rw [idxTo_t hp, List.length_append, List.length_singleton] at h
      by_cases e : i = n
      · rw [e]; exact hp
      · exact ih (by omega) i (by omega)
theorem badP_iff (xs : List Int) (t d : Int) (i : Nat) : badP xs t d i = true ↔ ¬ (t - d ≤ xs.getD i 0 ∧ xs.getD i 0 ≤ t + d) := by
  unfold badP inB
  generalize xs.getD i 0 = x
  simp
  omega
def wantOf (xs : List Int) (d : Int) (i : Nat) : Int := max 1 (xs.getD i 0 - d)
def sB (n : Nat) (xs : List Int) (d : Int) : Nat → Int × Int
  | 0 => (-1, 0)
  | k + 1 => if (sB n xs d k).1 < 0 ∨ (bN n xs d (wantOf xs d k) : Int) < (sB n xs d k).2 ∨ ((bN n xs d (wantOf xs d k) : Int) = (sB n xs d k).2 ∧ wantOf xs d k < (sB n xs d k).1) then (wantOf xs d k, (bN n xs d (wantOf xs d k) : Int)) else sB n xs d k
def lexLe (n : Nat) (xs : List Int) (d a b : Int) : Prop := bN n xs d a < bN n xs d b ∨ (bN n xs d a = bN n xs d b ∧ a ≤ b)
theorem sB_at {n : Nat} {xs : List Int} {d : Int} : ∀ k, 0 < k → 1 ≤ (sB n xs d k).1 ∧ (sB n xs d k).2 = (bN n xs d (sB n xs d k).1 : Int) ∧ (∃ i, i < k ∧ (sB n xs d k).1 = wantOf xs d i) ∧ ∀ i, i < k → lexLe n xs d (sB n xs d k).1 (wantOf xs d i)
  | 0, h => absurd h (Nat.lt_irrefl 0)
  | k + 1, _ => by
      have hw : 1 ≤ wantOf xs d k := by unfold wantOf; omega
      rcases Nat.eq_zero_or_pos k with h0 | h0
      · subst h0
        have e : sB n xs d 1 = (wantOf xs d 0, (bN n xs d (wantOf xs d 0) : Int)) := by rw [sB, if_pos (Or.inl (by simp [sB]))]
        rw [e]
        refine ⟨hw, rfl, ⟨0, by omega, rfl⟩, fun i hi => ?_⟩
        obtain rfl : i = 0 := by omega
        exact Or.inr ⟨rfl, Int.le_refl _⟩
      · obtain ⟨h1, h2, ⟨j, hj, h3⟩, h4⟩ := sB_at (n := n) (xs := xs) (d := d) k h0
        rw [sB]
        split
        · rename_i hc
          refine ⟨hw, rfl, ⟨k, by omega, rfl⟩, fun i hi => ?_⟩
          have hlex : lexLe n xs d (wantOf xs d k) (sB n xs d k).1 := by
            rw [h2] at hc
            unfold lexLe
            omega
          by_cases e : i = k
          · subst e; exact Or.inr ⟨rfl, Int.le_refl _⟩
          · have := h4 i (by omega)
            show lexLe n xs d (wantOf xs d k) (wantOf xs d i)
            unfold lexLe at this hlex ⊢
            omega
        · rename_i hc
          refine ⟨h1, h2, ⟨j, by omega, h3⟩, fun i hi => ?_⟩
          by_cases e : i = k
          · subst e
            rw [h2] at hc
            unfold lexLe
            omega
          · exact h4 i (by omega)
theorem sB_bd {n : Nat} {xs : List Int} {d : Int} (k : Nat) (hk : ∀ i, i < k → xs.getD i 0 ≤ 5000) (hd : 0 ≤ d) : -1 ≤ (sB n xs d k).1 ∧ (sB n xs d k).1 ≤ 5000 ∧ 0 ≤ (sB n xs d k).2 ∧ (sB n xs d k).2 ≤ n := by
  rcases Nat.eq_zero_or_pos k with h0 | h0
  · subst h0; simp [sB]
  · obtain ⟨h1, h2, ⟨j, hj, h3⟩, h4⟩ := sB_at (n := n) (xs := xs) (d := d) k h0
    have := bN_le n xs d (sB n xs d k).1
    have h5 := hk j hj
    have : wantOf xs d j ≤ 5000 := by unfold wantOf; omega
    omega
def gW (n : Nat) (xs : List Int) (d : Int) (i : Nat) : Int := (n : Int) - (bN n xs d ((i : Int) + 1) : Int)
/-- the least good want takes some piece at its upper bound, or is 1 -/
theorem best_is {n : Nat} {xs : List Int} {d : Int} (hn : 0 < n) (hx : ∀ i, i < n → 1 ≤ xs.getD i 0 ∧ xs.getD i 0 ≤ 5000) (hd : 0 ≤ d) : (sB n xs d n).1 = (amax (gW n xs d) 5000 : Nat) + 1 := by
  obtain ⟨s1, s2, ⟨j, hj, s3⟩, s4⟩ := sB_at (n := n) (xs := xs) (d := d) n hn
  have s5 := (sB_bd (n := n) (xs := xs) (d := d) n (fun i hi => (hx i hi).2) hd).2.1
  generalize (sB n xs d n).1 = s at s1 s3 s4 s5
  have m0 := amax_lt (gW n xs d) 5000 (by decide)
  have m1 := amax_max (gW n xs d) 5000
  have m2 := amax_first (gW n xs d) 5000
  generalize amax (gW n xs d) 5000 = m at m0 m1 m2
  have M1 : ∀ v : Int, 1 ≤ v → v ≤ 5000 → bN n xs d ((m : Int) + 1) ≤ bN n xs d v := fun v h1 h2 => by
    have := m1 (v - 1).toNat (by omega)
    simp only [gW] at this
    rw [show (((v - 1).toNat : Nat) : Int) + 1 = v by omega] at this
    omega
  have M2 : ∀ v : Int, 1 ≤ v → v < (m : Int) + 1 → bN n xs d ((m : Int) + 1) < bN n xs d v := fun v h1 h2 => by
    have := m2 (v - 1).toNat (by omega)
    simp only [gW] at this
    rw [show (((v - 1).toNat : Nat) : Int) + 1 = v by omega] at this
    omega
  -- some piece is good at m + 1
  have hgood : ∃ i, i < n ∧ wantOf xs d i = (m : Int) + 1 := by
    rcases Nat.eq_zero_or_pos m with h0 | h0
    · subst h0
      by_cases hall : n ≤ bN n xs d ((0 : Nat) + 1 : Int)
      · exfalso
        have h1 := hx 0 hn
        have h2 := M1 (xs.getD 0 0) h1.1 h1.2
        have h3 := idxTo_all (p := badP xs (xs.getD 0 0) d) n (by have : bN n xs d (xs.getD 0 0) = (idxTo (badP xs (xs.getD 0 0) d) n).length := rfl; omega) 0 hn
        rw [badP_iff] at h3
        omega
      · by_cases hex : ∃ i, i < n ∧ wantOf xs d i = ((0 : Nat) : Int) + 1
        · exact hex
        · exfalso
          apply hall
          have hb : ∀ i, i < n → badP xs ((0 : Nat) + 1 : Int) d i = true := fun i hi => by
            have h1 : ¬ wantOf xs d i = ((0 : Nat) : Int) + 1 := fun e => hex ⟨i, hi, e⟩
            have h2 := hx i hi
            unfold wantOf at h1
            rw [badP_iff]
            omega
          have := idxTo_mono (p := fun _ => true) (q := badP xs ((0 : Nat) + 1 : Int) d) n (fun i hi _ => hb i hi)
          have hl : ∀ k, (idxTo (fun _ => true) k).length = k := fun k => by
            induction k with
            | zero => rfl
            | succ k ih => rw [idxTo_t rfl, List.length_append, ih]; rfl
          rw [hl] at this
          exact this
    · have hlt := M2 (m : Int) (by omega) (by omega)
      by_cases hex : ∃ i, i < n ∧ wantOf xs d i = (m : Int) + 1
      · exact hex
      · exfalso
        have := idxTo_mono (p := badP xs (m : Int) d) (q := badP xs ((m : Int) + 1) d) n (fun i hi hb => by
          have h1 : ¬ wantOf xs d i = (m : Int) + 1 := fun e => hex ⟨i, hi, e⟩
          unfold wantOf at h1
          rw [badP_iff] at hb ⊢
          omega)
        have e1 : bN n xs d (m : Int) = (idxTo (badP xs (m : Int) d) n).length := rfl
        have e2 : bN n xs d ((m : Int) + 1) = (idxTo (badP xs ((m : Int) + 1) d) n).length := rfl
        omega
  obtain ⟨i, hi, hw⟩ := hgood
  have h1 := s4 i hi
  rw [hw] at h1
  have h2 := M1 s s1 s5
  unfold lexLe at h1
  by_cases hle : s < (m : Int) + 1
  · have := M2 s s1 hle
    omega
  · omega
def bestWantV (n : Nat) (xs : List Int) (d : Int) : Int := if piecesB n xs && (decide (0 < n) && inB d 0 1000) then (sB n xs d n).1 else -1
set_option maxHeartbeats 4000000 in
theorem sBestWant (A : Option Addr) (n c : Nat) (xs : List Int) (d : Int) (w : World) (hn : n ≤ maxLen) (hx : ReadsI w A n xs) : Calls Try.prog 5 #[.slice A n c, .int .i64 d] w (Val (i64 (bestWantV n xs d)) w) := by
  cases h1 : piecesB n xs
  · have HV : Hid (bestWantV n xs d = -1) := Lib.hid (by simp only [bestWantV, h1]; simp)
    go_enter Try.func5, Try.ntmps5
    go_wp2_with fail
    refine (sPiecesOk A _ c xs _ hn hx).mono ?_
    rintro _ _ ⟨rfl, rfl⟩
    rw [h1]
    go_wp2_with (first | (go_at_call 12; refine (sIn _ _ _ _).mono ?_; rintro e w' ⟨rfl, rfl⟩) | (go_at_call 20; refine (iIn _ _ _ _).mono ?_; rintro e w' ⟨rfl, rfl⟩) | go_in | (go_end0; simp only []; go_at_K))
    go_ret
    exact Val.mk' (v_int HV.out.symm) (by (repeat (first | exact In.refl _ | assumption | apply In.alloc | apply In.drewN | apply In.drew | (refine In.step ?_ (by assumption)))))
  cases h2 : decide (0 < n)
  · have HV : Hid (bestWantV n xs d = -1) := Lib.hid (by simp only [bestWantV, h2]; simp)
    have h0 : n = 0 := by simpa using h2
    subst h0
    go_enter Try.func5, Try.ntmps5
    go_wp2_with fail
    refine (sPiecesOk A _ c xs _ hn hx).mono ?_
    rintro _ _ ⟨rfl, rfl⟩
    rw [h1]
    go_wp2_with (first | (go_at_call 12; refine (sIn _ _ _ _).mono ?_; rintro e w' ⟨rfl, rfl⟩) | (go_at_call 20; refine (iIn _ _ _ _).mono ?_; rintro e w' ⟨rfl, rfl⟩) | go_in | (go_end0; simp only []; go_at_K))
    go_ret
    exact Val.mk' (v_int HV.out.symm) (by (repeat (first | exact In.refl _ | assumption | apply In.alloc | apply In.drewN | apply In.drew | (refine In.step ?_ (by assumption)))))
  cases h3 : inB d 0 1000
  · have HV : Hid (bestWantV n xs d = -1) := Lib.hid (by simp only [bestWantV, h3]; simp)
    have h0 : 0 < n := by simpa using h2
    go_enter Try.func5, Try.ntmps5
    go_wp2_with fail
    refine (sPiecesOk A _ c xs _ hn hx).mono ?_
    rintro _ _ ⟨rfl, rfl⟩
    rw [h1]
    go_wp2_with (first | (go_at_call 12; refine (sIn _ _ _ _).mono ?_; rintro e w' ⟨rfl, rfl⟩) | (go_at_call 20; refine (iIn _ _ _ _).mono ?_; rintro e w' ⟨rfl, rfl⟩) | go_in | (go_end0; simp only []; go_at_K))
    go_ret
    exact Val.mk' (v_int HV.out.symm) (by (repeat (first | exact In.refl _ | assumption | apply In.alloc | apply In.drewN | apply In.drew | (refine In.step ?_ (by assumption)))))
  have HV : Hid (bestWantV n xs d = (sB n xs d n).1) := Lib.hid (by simp only [bestWantV, h1, h2, h3]; simp)
  have h0 : 0 < n := by simpa using h2
  obtain ⟨d1, d2⟩ := inB_tt h3
  obtain ⟨p1, p2⟩ := pieces_at h1
  have HP := Lib.hid p2
  have HL : Hid (∀ t : Int, inB t 1 5000 = true → BadPiecesL n xs t d = idxTo (badP xs t d) n) := Lib.hid (fun t ht => by simp [BadPiecesL, h1, ht, h3])
  clear p2
  have hne : ((n : Int) == 0) = false := by simp; omega
  go_enter Try.func5, Try.ntmps5
  go_wp2_with fail
  refine (sPiecesOk A _ c xs _ hn hx).mono ?_
  rintro _ _ ⟨rfl, rfl⟩
  rw [h1]
  go_wp2_with (first | (go_at_call 12; refine (sIn _ _ _ _).mono ?_; rintro e w' ⟨rfl, rfl⟩) | (go_at_call 20; refine (iIn _ _ _ _).mono ?_; rintro e w' ⟨rfl, rfl⟩) | go_in | (go_end0; simp only []; go_at_K))
  clear h1 h2 h3
  go_loopw [5, 6, 7] (fun b f i wr => ∃ k : Nat, k ≤ n ∧ i = .int .i64 k ∧ b = .int .i64 (sB n xs d k).1 ∧ f = .int .i64 (sB n xs d k).2 ∧ In w.heap.size w wr) (fun _ _ i _ => n - (intOf i).toNat)
  case atStart => exact ⟨0, Nat.zero_le _, rfl, rfl, rfl, by (repeat (first | exact In.refl _ | assumption | apply In.alloc | apply In.drewN | apply In.drew | (refine In.step ?_ (by assumption))))⟩
  case round =>
    obtain ⟨k, hk, rfl, rfl, rfl, hi⟩ := hrel
    by_cases hlt : k < n
    · have hbd := sB_bd (n := n) (xs := xs) (d := d) k (fun i hi => (HP.out i (by omega)).2) d1
      obtain ⟨q1, q2⟩ := HP.out k hlt
      have HW : Hid (wantOf xs d k = max 1 (xs.getD k 0 - d)) := Lib.hid rfl
      have HU : Hid (sB n xs d (k + 1) = if (sB n xs d k).1 < 0 ∨ (bN n xs d (wantOf xs d k) : Int) < (sB n xs d k).2 ∨ ((bN n xs d (wantOf xs d k) : Int) = (sB n xs d k).2 ∧ wantOf xs d k < (sB n xs d k).1) then (wantOf xs d k, (bN n xs d (wantOf xs d k) : Int)) else sB n xs d k) := Lib.hid (by rw [sB])
      have HE : Hid (sB n xs d k = ((sB n xs d k).1, (sB n xs d k).2)) := Lib.hid rfl
      obtain ⟨a, rfl, ha⟩ := (hx.below hi.below (Nat.le_refl _)).2 k hlt
      generalize xs.getD k 0 = x at ha HW q1 q2
      generalize wantOf xs d k = W at HW HU
      have hWi : inB W 1 5000 = true := inB_t (by rw [HW.out]; omega)
      have HLL := Lib.hid (HL.out W hWi)
      have hbn := bN_le n xs d W
      have HBN : Hid ((BadPiecesL n xs W d).length = bN n xs d W) := Lib.hid (by rw [HLL.out]; rfl)
      have hlen := BadPiecesL_len n xs W d
      generalize bN n xs d W = bb at HBN HU hbn
      generalize hz : BadPiecesL n xs W d = zs at HBN hlen
      have HZ := Lib.hid hz
      clear hz hWi
      generalize (sB n xs d k).1 = be at HU HE hbd ⊢
      generalize (sB n xs d k).2 = fe at HU HE hbd ⊢
      by_cases hm : 1 < x - d
      · have HWX : Hid (W = x - d) := Lib.hid (by rw [HW.out]; omega)
        have HC := Lib.hid (fun w1 h => sBadPieces (some a) n c xs W d w1 hn h)
        rw [HZ.out, HWX.out] at HC
        go_wp2_with fail
        refine (HC.out _ (by exact hx.below (In.below (by (repeat (first | exact In.refl _ | assumption | apply In.alloc | apply In.drewN | apply In.drew | (refine In.step ?_ (by assumption)))))) (Nat.le_refl _))).mono ?_
        rintro _ w2 ⟨A2, c2, rfl, ho2, hb2⟩
        have hi2 : In w.heap.size w w2 := In.step (by (repeat (first | exact In.refl _ | assumption | apply In.alloc | apply In.drewN | apply In.drew | (refine In.step ?_ (by assumption))))) hb2
        have hzl : (zs.length : Int) = (bb : Int) := by rw [HBN.out]
        have hzl2 : zs.length = bb := HBN.out
        have e := HWX.out
        subst e
        clear HC ho2 hb2 HW HLL HBN HZ
        by_cases h1 : be < 0
        · have h1' : be < 0 := h1
          go_wp2
          go_roundw
          case rel => exact ⟨k + 1, by omega, by go_num, v_int (by rw [HU.out, if_pos (by omega)]; try rfl), v_int (by rw [HU.out, if_pos (by omega)]; try exact hzl), hi2⟩
          case measure => simp [intOf]; omega
        by_cases h2 : (bb : Int) < fe
        · have h1' : 0 ≤ be := by omega
          go_wp2
          go_roundw
          case rel => exact ⟨k + 1, by omega, by go_num, v_int (by rw [HU.out, if_pos (by omega)]; try rfl), v_int (by rw [HU.out, if_pos (by omega)]; try exact hzl), hi2⟩
          case measure => simp [intOf]; omega
        by_cases h3 : (bb : Int) = fe
        · subst h3
          by_cases h4 : x - d < be
          · have h1' : 0 ≤ be := by omega
            go_wp2
            go_roundw
            case rel => exact ⟨k + 1, by omega, by go_num, v_int (by rw [HU.out, if_pos (Or.inr (Or.inr ⟨trivial, h4⟩))]; try rfl), v_int (by rw [HU.out, if_pos (Or.inr (Or.inr ⟨trivial, h4⟩))]; try exact hzl), hi2⟩
            case measure => simp [intOf]; omega
          · have h1' : 0 ≤ be := by omega
            go_wp2
            go_roundw
            case rel => exact ⟨k + 1, by omega, by go_num, v_int (by rw [HU.out, if_neg (by omega), HE.out]; try rfl), v_int (by rw [HU.out, if_neg (by omega), HE.out]; try rfl), hi2⟩
            case measure => simp [intOf]; omega
        have h1' : 0 ≤ be := by omega
        go_wp2
        go_roundw
        case rel => exact ⟨k + 1, by omega, by go_num, v_int (by rw [HU.out, if_neg (by omega), HE.out]; try rfl), v_int (by rw [HU.out, if_neg (by omega), HE.out]; try rfl), hi2⟩
        case measure => simp [intOf]; omega
      · have HWX : Hid (W = 1) := Lib.hid (by rw [HW.out]; omega)
        have HC := Lib.hid (fun w1 h => sBadPieces (some a) n c xs W d w1 hn h)
        rw [HZ.out, HWX.out] at HC
        go_wp2_with fail
        refine (HC.out _ (by exact hx.below (In.below (by (repeat (first | exact In.refl _ | assumption | apply In.alloc | apply In.drewN | apply In.drew | (refine In.step ?_ (by assumption)))))) (Nat.le_refl _))).mono ?_
        rintro _ w2 ⟨A2, c2, rfl, ho2, hb2⟩
        have hi2 : In w.heap.size w w2 := In.step (by (repeat (first | exact In.refl _ | assumption | apply In.alloc | apply In.drewN | apply In.drew | (refine In.step ?_ (by assumption))))) hb2
        have hzl : (zs.length : Int) = (bb : Int) := by rw [HBN.out]
        have hzl2 : zs.length = bb := HBN.out
        have e := HWX.out
        subst e
        clear HC ho2 hb2 HW HLL HBN HZ
        by_cases h1 : be < 0
        · have h1' : be < 0 := h1
          go_wp2
          go_roundw
          case rel => exact ⟨k + 1, by omega, by go_num, v_int (by rw [HU.out, if_pos (by omega)]; try rfl), v_int (by rw [HU.out, if_pos (by omega)]; try exact hzl), hi2⟩
          case measure => simp [intOf]; omega
        by_cases h2 : (bb : Int) < fe
        · have h1' : 0 ≤ be := by omega
          go_wp2
          go_roundw
          case rel => exact ⟨k + 1, by omega, by go_num, v_int (by rw [HU.out, if_pos (by omega)]; try rfl), v_int (by rw [HU.out, if_pos (by omega)]; try exact hzl), hi2⟩
          case measure => simp [intOf]; omega
        by_cases h3 : (bb : Int) = fe
        · subst h3
          by_cases h4 : 1 < be
          · have h1' : 0 ≤ be := by omega
            go_wp2
            go_roundw
            case rel => exact ⟨k + 1, by omega, by go_num, v_int (by rw [HU.out, if_pos (Or.inr (Or.inr ⟨trivial, h4⟩))]; try rfl), v_int (by rw [HU.out, if_pos (Or.inr (Or.inr ⟨trivial, h4⟩))]; try exact hzl), hi2⟩
            case measure => simp [intOf]; omega
          · have h1' : 0 ≤ be := by omega
            go_wp2
            go_roundw
            case rel => exact ⟨k + 1, by omega, by go_num, v_int (by rw [HU.out, if_neg (by omega), HE.out]; try rfl), v_int (by rw [HU.out, if_neg (by omega), HE.out]; try rfl), hi2⟩
            case measure => simp [intOf]; omega
        have h1' : 0 ≤ be := by omega
        go_wp2
        go_roundw
        case rel => exact ⟨k + 1, by omega, by go_num, v_int (by rw [HU.out, if_neg (by omega), HE.out]; try rfl), v_int (by rw [HU.out, if_neg (by omega), HE.out]; try rfl), hi2⟩
        case measure => simp [intOf]; omega
    · obtain rfl : k = n := by omega
      go_wp2
      go_ret
      exact Val.mk' (v_int HV.out.symm) (by (repeat (first | exact In.refl _ | assumption | apply In.alloc | apply In.drewN | apply In.drew | (refine In.step ?_ (by assumption)))))
theorem gidx_at (f : Nat → Int) : gidx ((List.range 5000).map f) 5000 = (amax f 5000 : Nat) := by
  rw [gidx, if_neg (by decide)]
  rw [amax_congr (gF ((List.range 5000).map f)) f 5000 (fun i hi => by
    rw [gF, List.getD_eq_getElem?_getD, List.getElem?_map, List.getElem?_range hi]; rfl)]
def upTo (f : Nat → Int) (k u : Nat) : Int := if u < k then f u else 0
set_option maxRecDepth 20000 in
set_option maxHeartbeats 4000000 in
theorem iBestWant (A : Option Addr) (n c : Nat) (xs : List Int) (d : Int) (w : World) (hn : n ≤ maxLen) (hx : ReadsI w A n xs) : Calls Try.prog 7 #[.slice A n c, .int .i64 d] w (Val (i64 (bestWantV n xs d)) w) := by
  obtain ⟨i0, hi0, hz0, hz1, hz2⟩ := info_parts infoN
  cases h1 : piecesB n xs
  · have HV : Hid (bestWantV n xs d = -1) := Lib.hid (by simp only [bestWantV, h1]; simp)
    go_enter Try.func7, Try.ntmps7
    go_wp2_with fail
    refine (iPiecesOk A _ c xs _ hn hx).mono ?_
    rintro _ _ ⟨rfl, rfl⟩
    rw [h1]
    go_wp2_with (first | (go_at_call 12; refine (sIn _ _ _ _).mono ?_; rintro e w' ⟨rfl, rfl⟩) | (go_at_call 20; refine (iIn _ _ _ _).mono ?_; rintro e w' ⟨rfl, rfl⟩) | (go_at_call 15; refine (iToleranceOk d _).mono ?_; rintro e w' ⟨rfl, rfl⟩) | go_in | (go_end0; simp only []; go_at_K))
    go_ret
    exact Val.mk' (v_int HV.out.symm) (by (repeat (first | exact In.refl _ | assumption | apply In.alloc | apply In.drewN | apply In.drew | (refine In.step ?_ (by assumption)))))
  cases h2 : decide (0 < n)
  · have HV : Hid (bestWantV n xs d = -1) := Lib.hid (by simp only [bestWantV, h2]; simp)
    have h0 : n = 0 := by simpa using h2
    subst h0
    go_enter Try.func7, Try.ntmps7
    go_wp2_with fail
    refine (iPiecesOk A _ c xs _ hn hx).mono ?_
    rintro _ _ ⟨rfl, rfl⟩
    rw [h1]
    go_wp2_with (first | (go_at_call 12; refine (sIn _ _ _ _).mono ?_; rintro e w' ⟨rfl, rfl⟩) | (go_at_call 20; refine (iIn _ _ _ _).mono ?_; rintro e w' ⟨rfl, rfl⟩) | (go_at_call 15; refine (iToleranceOk d _).mono ?_; rintro e w' ⟨rfl, rfl⟩) | go_in | (go_end0; simp only []; go_at_K))
    go_ret
    exact Val.mk' (v_int HV.out.symm) (by (repeat (first | exact In.refl _ | assumption | apply In.alloc | apply In.drewN | apply In.drew | (refine In.step ?_ (by assumption)))))
  cases h3 : inB d 0 1000
  · have HV : Hid (bestWantV n xs d = -1) := Lib.hid (by simp only [bestWantV, h3]; simp)
    have h0 : 0 < n := by simpa using h2
    go_enter Try.func7, Try.ntmps7
    go_wp2_with fail
    refine (iPiecesOk A _ c xs _ hn hx).mono ?_
    rintro _ _ ⟨rfl, rfl⟩
    rw [h1]
    go_wp2_with (first | (go_at_call 12; refine (sIn _ _ _ _).mono ?_; rintro e w' ⟨rfl, rfl⟩) | (go_at_call 20; refine (iIn _ _ _ _).mono ?_; rintro e w' ⟨rfl, rfl⟩) | (go_at_call 15; refine (iToleranceOk d _).mono ?_; rintro e w' ⟨rfl, rfl⟩) | go_in | (go_end0; simp only []; go_at_K))
    go_ret
    exact Val.mk' (v_int HV.out.symm) (by (repeat (first | exact In.refl _ | assumption | apply In.alloc | apply In.drewN | apply In.drew | (refine In.step ?_ (by assumption)))))
  have HV : Hid (bestWantV n xs d = (sB n xs d n).1) := Lib.hid (by simp only [bestWantV, h1, h2, h3]; simp)
  have h0 : 0 < n := by simpa using h2
  obtain ⟨d1, d2⟩ := inB_tt h3
  obtain ⟨p1, p2⟩ := pieces_at h1
  have HP := Lib.hid p2
  have HL : Hid (∀ t : Int, inB t 1 5000 = true → BadPiecesL n xs t d = idxTo (badP xs t d) n) := Lib.hid (fun t ht => by simp [BadPiecesL, h1, ht, h3])
  clear p2
  have hne : ((n : Int) == 0) = false := by simp; omega
  go_enter Try.func7, Try.ntmps7
  go_wp2_with fail
  refine (iPiecesOk A _ c xs _ hn hx).mono ?_
  rintro _ _ ⟨rfl, rfl⟩
  rw [h1]
  clear h1 h2
  go_wp2_with (first | (at_make; refine wpList_make_full _ rfl (.const (.int .i64 5000)) (.const (.int .i64 5000)) 22 rfl w.heap.size 3 i0 (.int .i64 0) 1 Try.underlying22 hi0 hz0 hz1 .i64 .i64 (5000 : Int) (5000 : Int) 5000 rfl rfl rfl rfl ?h2 ?h3 ?h4 ?_) | (go_at_call 15; refine (iToleranceOk d _).mono ?_; rintro e w' ⟨rfl, rfl⟩; rw [h3]))
  case h2 => rw [hz2]; omega
  case h3 => unfold maxLen; omega
  case h4 => exact Nat.le_refl _
  intro w1 hown0 hgrow0
  have hb0 : Below w.heap.size w w1 := (Below.refl _ _).grown hgrow0 (Nat.le_refl _) (fun j hj => by cases hj)
  have hwa : Ways w1 w.heap.size 5000 (upTo (gW n xs d) 0) := (ways_made (by rw [toList_madeCells_one] at hown0; exact hown0)).congr (fun u hu => by simp [upTo])
  have i1 : In w.heap.size w w1 := ⟨hb0, hb0.size⟩
  clear hgrow0 hown0 hb0
  generalize hN : (5000 : Nat) = N at hwa ⊢
  have hN5 : (N : Int) = 5000 := by omega
  have HN5 := Lib.hid hN5
  have hNb : N ≤ 10000 := by omega
  clear hN hN5
  go_wp2
  go_loopw [23] (fun i wr => ∃ k : Nat, k ≤ N ∧ i = .int .i64 k ∧ Ways wr w.heap.size N (upTo (gW n xs d) k) ∧ In w.heap.size w wr) (fun i _ => N - (intOf i).toNat)
  case atStart => exact ⟨0, Nat.zero_le _, rfl, hwa, i1⟩
  case round =>
    clear hwa i1
    obtain ⟨k, hk, rfl, hwa, hi⟩ := hrel
    by_cases hlt : k < N
    · have hWi : inB ((k : Int) + 1) 1 5000 = true := inB_t (by have := HN5.out; omega)
      have HLL := Lib.hid (HL.out _ hWi)
      have hbn := bN_le n xs d ((k : Int) + 1)
      have HBN : Hid ((BadPiecesL n xs ((k : Int) + 1) d).length = bN n xs d ((k : Int) + 1)) := Lib.hid (by rw [HLL.out]; rfl)
      have HG : Hid (gW n xs d k = (n : Int) - (bN n xs d ((k : Int) + 1) : Int)) := Lib.hid rfl
      have hlen := BadPiecesL_len n xs ((k : Int) + 1) d
      have HC := Lib.hid (fun w1 h => iBadPieces A n c xs ((k : Int) + 1) d w1 hn h)
      generalize bN n xs d ((k : Int) + 1) = bb at HBN HG hbn
      generalize hz : BadPiecesL n xs ((k : Int) + 1) d = zs at HBN hlen HC
      clear hz hWi HLL
      have W1 : IntKind.i64.wrap ((k : Int) + 1) = (k : Int) + 1 := IntWalk.i64_in _ (by omega)
      go_wp2_with fail
      refine (HC.out _ (by exact hx.below (In.below (by (repeat (first | exact In.refl _ | assumption | apply In.alloc | apply In.drewN | apply In.drew | (refine In.step ?_ (by assumption)))))) (Nat.le_refl _))).mono ?_
      rintro _ w2 ⟨A2, c2, rfl, ho2, hb2⟩
      have hi2 : In w.heap.size w w2 := In.step (by (repeat (first | exact In.refl _ | assumption | apply In.alloc | apply In.drewN | apply In.drew | (refine In.step ?_ (by assumption))))) hb2
      have hwa2 := hwa.below (by first | exact hb2 | exact (Below.refl _ _).trans hb2)
      have hzl2 : zs.length = bb := HBN.out
      have ck := hwa2.cell k hlt
      have fk := hwa2.free k
      clear HC ho2 hb2 hwa
      go_wp2
      go_roundw
      case rel => exact ⟨k + 1, by omega, by go_num, hwa2.set_ k _ _ (by unfold upTo; rw [if_pos (by omega), HG.out]) (fun u hu => by
          unfold upTo
          by_cases h : u < k
          · rw [if_pos h, if_pos (by omega)]
          · rw [if_neg h, if_neg (by omega)]) hlt, hi2.set_ (Nat.le_refl _) _⟩
      case measure => simp [intOf]; omega
    · obtain rfl : N = k := by omega
      have hr := hwa.reads
      have HZL : Hid (gidx ((List.range N).map (upTo (gW n xs d) N)) N = (amax (gW n xs d) 5000 : Nat)) := Lib.hid (by
        have e : N = 5000 := by have := HN5.out; omega
        rw [e, gidx_at, amax_congr (upTo (gW n xs d) 5000) (gW n xs d) 5000 (fun i hi => by simp [upTo, hi])])
      have hal : amax (gW n xs d) 5000 ≤ N := by have := amax_le (gW n xs d) 5000; have := HN5.out; omega
      have HBI := Lib.hid (best_is (n := n) (xs := xs) (d := d) h0 HP.out d1)
      generalize amax (gW n xs d) 5000 = z at HZL HBI hal
      generalize (List.range N).map (upTo (gW n xs d) N) = zs at hr HZL
      go_wp2_with fail
      refine (iGreatest (some ⟨w.heap.size, 0, none⟩) N N zs _ (by unfold maxLen; omega) (by exact hr)).mono ?_
      rintro _ w2 ⟨rfl, hb2⟩
      rw [HZL.out]
      go_wp2
      go_ret
      exact Val.mk' (v_int (by rw [HV.out, HBI.out])) (by (repeat (first | exact In.refl _ | assumption | apply In.alloc | apply In.drewN | apply In.drew | (refine In.step ?_ (by assumption)))))
end Go.Proofs.Ytjcmdmiafeaeoad
