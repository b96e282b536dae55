/- Chapter 12: SpreadOf. -/
import Derived.Test.YtjcmdmiafeaeoadC12
import Derived.Test.YtjcmdmiafeaeoadGi
import Derived.Test.YtjcmdmiafeaeoadQuiet
namespace Go.Proofs.Ytjcmdmiafeaeoad
open Go.ChangeShapes Go.WideShapes Go.ChangeAt Go.RowKit
set_option linter.unusedVariables false
set_option linter.unusedSimpArgs false

def lowS (xs : List Int) : Nat → Int
  | 0 => xs.getD 0 0
  | k + 1 => min (lowS xs k) (xs.getD k 0)
def highS (xs : List Int) : Nat → Int
  | 0 => xs.getD 0 0
  | k + 1 => max (highS xs k) (xs.getD k 0)
theorem lowS_succ (xs : List Int) (k : Nat) : lowS xs (k + 1) = min (lowS xs k) (xs.getD k 0) := rfl
theorem highS_succ (xs : List Int) (k : Nat) : highS xs (k + 1) = max (highS xs k) (xs.getD k 0) := rfl
theorem lowS_in {n : Nat} {xs : List Int} (h : ∀ i, i < n → 1 ≤ xs.getD i 0 ∧ xs.getD i 0 ≤ 5000) (hn : 0 < n) (k : Nat) (hk : k ≤ n) : 1 ≤ lowS xs k ∧ lowS xs k ≤ 5000 := by
  induction k with
  | zero => exact h 0 hn
  | succ k ih => have := ih (by omega); have := h k (by omega); rw [lowS_succ]; omega
theorem highS_in {n : Nat} {xs : List Int} (h : ∀ i, i < n → 1 ≤ xs.getD i 0 ∧ xs.getD i 0 ≤ 5000) (hn : 0 < n) (k : Nat) (hk : k ≤ n) : 1 ≤ highS xs k ∧ highS xs k ≤ 5000 := by
  induction k with
  | zero => exact h 0 hn
  | succ k ih => have := ih (by omega); have := h k (by omega); rw [highS_succ]; omega
theorem highS_amax (xs : List Int) (k : Nat) (hk : 0 < k) : highS xs k = xs.getD (amax (gF xs) k) 0 := by
  induction k with
  | zero => omega
  | succ k ih =>
    rw [highS_succ, amax_succ]
    by_cases e : k = 0
    · subst e; simp [amax, highS, gF]
    · rw [ih (by omega)]
      unfold gF
      split <;> omega
def spreadV (n : Nat) (xs : List Int) : Int := if piecesB n xs then (if n = 0 then 0 else highS xs n - lowS xs n) else -1
set_option maxHeartbeats 1000000 in
theorem sSpreadOf (A : Option Addr) (n c : Nat) (xs : List Int) (w : World) (hn : n ≤ maxLen) (hx : ReadsI w A n xs) : Calls Try.prog 9 #[.slice A n c] w (Same (i64 (spreadV n xs)) w) := by
  cases h1 : piecesB n xs
  · have HV : Hid (spreadV n xs = -1) := Lib.hid (by rw [spreadV, h1]; rfl)
    go_enter Try.func9, Try.ntmps9
    go_wp2_with (first | (go_at_call 12; refine (sIn _ _ _ _).mono ?_; rintro e w' ⟨rfl, rfl⟩) | (go_at_call 20; refine (iIn _ _ _ _).mono ?_; rintro e w' ⟨rfl, rfl⟩) | (go_at_call 11; refine (sPiecesOk A n c xs _ hn hx).mono ?_; rintro e w' ⟨rfl, rfl⟩) | go_in | (go_end0; simp only []; go_at_K))
    go_ret
    exact ⟨ret_int HV.out.symm, rfl⟩
  by_cases h0 : n = 0
  · subst h0
    have HV : Hid (spreadV 0 xs = 0) := Lib.hid (by rw [spreadV, h1]; rfl)
    go_enter Try.func9, Try.ntmps9
    go_wp2_with (first | (go_at_call 12; refine (sIn _ _ _ _).mono ?_; rintro e w' ⟨rfl, rfl⟩) | (go_at_call 20; refine (iIn _ _ _ _).mono ?_; rintro e w' ⟨rfl, rfl⟩) | (go_at_call 11; refine (sPiecesOk A 0 c xs _ hn hx).mono ?_; rintro e w' ⟨rfl, rfl⟩) | go_in | (go_end0; simp only []; go_at_K))
    go_ret
    exact ⟨ret_int HV.out.symm, rfl⟩
  have HV : Hid (spreadV n xs = highS xs n - lowS xs n) := Lib.hid (by rw [spreadV, h1, if_neg h0]; rfl)
  obtain ⟨p1, p2⟩ := pieces_at h1
  have HL := Lib.hid (fun k hk => lowS_in p2 (by omega) k hk)
  have HH := Lib.hid (fun k hk => highS_in p2 (by omega) k hk)
  obtain ⟨a, rfl, ha⟩ := hx.2 0 (by omega)
  have h0' : ¬ (n : Int) = 0 := by omega
  have hn0 : (0 : Int) < n := by omega
  have hz : a.add 0 = a := rfl
  have ha' : w.cell? a = some (.int .i64 (xs.getD 0 0)) := ha
  have e1 : lowS xs 0 = xs.getD 0 0 := rfl
  have e2 : highS xs 0 = xs.getD 0 0 := rfl
  rw [← e1] at ha'
  have HE : Hid (highS xs 0 = lowS xs 0) := Lib.hid rfl
  clear e1 e2 ha hz p2
  go_enter Try.func9, Try.ntmps9
  go_wp2_with (first | (go_at_call 12; refine (sIn _ _ _ _).mono ?_; rintro e w' ⟨rfl, rfl⟩) | (go_at_call 20; refine (iIn _ _ _ _).mono ?_; rintro e w' ⟨rfl, rfl⟩) | (go_at_call 11; refine (sPiecesOk (some a) n c xs _ hn hx).mono ?_; rintro e w' ⟨rfl, rfl⟩) | go_in | (go_end0; simp only []; go_at_K))
  clear h1 ha'
  go_loop [3, 4, 5] (fun s t i => ∃ k : Nat, k ≤ n ∧ i = .int .i64 k ∧ s = .int .i64 (lowS xs k) ∧ t = .int .i64 (highS xs k)) (fun _ _ i => n - (intOf i).toNat)
  case atStart => exact ⟨0, Nat.zero_le _, rfl, rfl, v_int HE.out.symm⟩
  case round =>
    obtain ⟨k, hk, rfl, rfl, rfl⟩ := hrel
    obtain ⟨l1, l2⟩ := HL.out k hk
    obtain ⟨m1, m2⟩ := HH.out k hk
    by_cases hlt : k < n
    · obtain ⟨a2, ea, hb⟩ := hx.2 k hlt
      obtain rfl : a = a2 := Option.some.inj ea
      have HA := Lib.hid (lowS_succ xs k)
      have HB := Lib.hid (highS_succ xs k)
      generalize xs.getD k 0 = x at *
      generalize lowS xs k = l at *
      generalize highS xs k = h at *
      by_cases g1 : x < l <;> by_cases g2 : h < x
      all_goals
        go_wp2
        go_round
        case rel => exact ⟨k + 1, by omega, by go_num, v_int (by rw [HA.out]; omega), v_int (by rw [HB.out]; omega)⟩
        case measure => simp [intOf]; omega
    · obtain rfl : k = n := by omega
      generalize lowS xs k = l at *
      generalize highS xs k = h at *
      go_wp2
      go_ret
      exact ⟨ret_int HV.out.symm, rfl⟩
theorem iMin (A : Option Addr) (n c : Nat) (xs : List Int) (w : World) (hn : n ≤ maxLen) (h0 : 0 < n) (hx : ReadsI w A n xs) : Calls Try.prog 18 #[.slice A n c] w (Same (i64 (lowS xs n)) w) := by
  unfold maxLen at hn
  obtain ⟨a, rfl, ha⟩ := hx.2 0 h0
  have hl1 : lowS xs 1 = xs.getD 0 0 := by simp [lowS]
  have ha' : w.cell? a = some (.int .i64 (lowS xs 1)) := by rw [hl1]; exact ha
  clear hl1
  have hn1 : ¬ (n : Int) < 1 := by omega
  have hn2 : (0 : Int) < n := by omega
  clear ha
  go_enter Try.func18, Try.ntmps18
  go_wp2
  go_loop [3, 4] (fun s i => ∃ k : Nat, 1 ≤ k ∧ k ≤ n ∧ i = .int .i64 k ∧ s = .int .i64 (lowS xs k)) (fun _ i => n - (intOf i).toNat)
  case atStart => exact ⟨1, Nat.le_refl _, h0, rfl, rfl⟩
  case round =>
    obtain ⟨k, hk1, hk, rfl, rfl⟩ := hrel
    by_cases hlt : k < n
    · obtain ⟨a2, ea, hb⟩ := hx.2 k hlt
      obtain rfl : a = a2 := Option.some.inj ea
      have HA := Lib.hid (lowS_succ xs k)
      generalize xs.getD k 0 = x at *
      generalize lowS xs k = l at *
      by_cases g1 : x < l
      all_goals
        go_wp2
        go_round
        case rel => exact ⟨k + 1, by omega, by omega, by go_num, v_int (by rw [HA.out]; omega)⟩
        case measure => simp [intOf]; omega
    · obtain rfl : k = n := by omega
      go_wp2
      go_ret
      exact ⟨rfl, rfl⟩
theorem heldC1_step {B : Nat} {a w0 w' : World} {p : Addr} {x : Value} (hb : Below w0.heap.size w0 w') (h : In B a w0 ∧ w0.cell? p = some x) : In B a w' ∧ w'.cell? p = some x := ⟨h.1.step hb, (hb.cell (cell_lt h.2)).trans h.2⟩
set_option maxHeartbeats 1000000 in
theorem iSpreadOf (A : Option Addr) (n c : Nat) (xs : List Int) (w : World) (hn : n ≤ maxLen) (hx : ReadsI w A n xs) : Calls Try.prog 10 #[.slice A n c] w (Val (i64 (spreadV n xs)) w) := by
  cases h1 : piecesB n xs
  · have HV : Hid (spreadV n xs = -1) := Lib.hid (by rw [spreadV, h1]; rfl)
    go_enter Try.func10, Try.ntmps10
    go_wp2_with (first | (go_at_call 12; refine (sIn _ _ _ _).mono ?_; rintro e w' ⟨rfl, rfl⟩) | (go_at_call 20; refine (iIn _ _ _ _).mono ?_; rintro e w' ⟨rfl, rfl⟩) | (go_at_call 14; refine (iPiecesOk A n c xs _ hn hx).mono ?_; rintro e w' ⟨rfl, rfl⟩) | go_in | (go_end0; simp only []; go_at_K))
    go_ret
    exact Val.mk' (v_int HV.out.symm) (by (repeat (first | exact In.refl _ | assumption | apply In.alloc | apply In.drewN | apply In.drew | (refine In.step ?_ (by assumption)))))
  by_cases h0 : n = 0
  · subst h0
    have HV : Hid (spreadV 0 xs = 0) := Lib.hid (by rw [spreadV, h1]; rfl)
    go_enter Try.func10, Try.ntmps10
    go_wp2_with (first | (go_at_call 12; refine (sIn _ _ _ _).mono ?_; rintro e w' ⟨rfl, rfl⟩) | (go_at_call 20; refine (iIn _ _ _ _).mono ?_; rintro e w' ⟨rfl, rfl⟩) | (go_at_call 14; refine (iPiecesOk A 0 c xs _ hn hx).mono ?_; rintro e w' ⟨rfl, rfl⟩) | go_in | (go_end0; simp only []; go_at_K))
    go_ret
    exact Val.mk' (v_int HV.out.symm) (by (repeat (first | exact In.refl _ | assumption | apply In.alloc | apply In.drewN | apply In.drew | (refine In.step ?_ (by assumption)))))
  have HV : Hid (spreadV n xs = highS xs n - lowS xs n) := Lib.hid (by rw [spreadV, h1, if_neg h0]; rfl)
  obtain ⟨p1, p2⟩ := pieces_at h1
  obtain ⟨l1, l2⟩ := lowS_in p2 (by omega) n (Nat.le_refl _)
  obtain ⟨m1, m2⟩ := highS_in p2 (by omega) n (Nat.le_refl _)
  obtain ⟨k, hk⟩ : ∃ k, k = amax (gF xs) n := ⟨_, rfl⟩
  have hkn : k < n := by rw [hk]; exact amax_lt _ _ (by omega)
  have hg : gidx xs n = (k : Int) := by rw [gidx, if_neg h0, hk]
  obtain ⟨a, rfl, ha⟩ := hx.2 k hkn
  rw [hk, ← highS_amax xs n (by omega), ← hk] at ha
  have HG := Lib.hid (fun W h => hg ▸ iGreatest (some a) n c xs W hn h)
  have HM := Lib.hid (fun W h => iMin (some a) n c xs W hn (by omega) h)
  have h0' : ((n : Int) == 0) = false := by simp; omega
  have hknI : (k : Int) < n := by omega
  have hwr : IntKind.i64.wrap (highS xs n - lowS xs n) = highS xs n - lowS xs n := IntWalk.i64_in _ (by omega)
  clear p2 hk hg h0
  generalize lowS xs n = l at *
  generalize highS xs n = h at *
  go_enter Try.func10, Try.ntmps10
  go_wp2_with (first | (go_at_call 12; refine (sIn _ _ _ _).mono ?_; rintro e w' ⟨rfl, rfl⟩) | (go_at_call 20; refine (iIn _ _ _ _).mono ?_; rintro e w' ⟨rfl, rfl⟩) | (go_at_call 14; refine (iPiecesOk (some a) n c xs _ hn hx).mono ?_; rintro e w' ⟨rfl, rfl⟩) | go_in | (go_end0; simp only []; go_at_K))
  refine wp_region_S (C := (fun w' => In w.heap.size w w' ∧ w'.cell? (a.add k) = some (.int .i64 h))) (by kernel_rfl) (by kernel_rfl) ?_ ?_
  · exact ⟨by (repeat (first | exact In.refl _ | assumption | apply In.alloc | apply In.drewN | apply In.drew | (refine In.step ?_ (by assumption)))), ha⟩
  repeat (first | go_big_quiet_skip | (go_big_quiet_want; first | (refine quiet_ex ?_; apply Exists.intro; refine ⟨fun W hW => ?_, ?_⟩; (· (obtain ⟨i1, f0⟩ := hW; go_simp; (first | done | with_reducible rfl | rfl))); simp only [Act.put, List.setIfInBounds_toArray, List.set_cons_zero, List.set_cons_succ]; go_big_quiet_on) | (refine quiet_ex ?_; apply Exists.intro; refine ⟨fun W hW => ?_, ?_⟩; (· (go_simp; first | (go_at_call 17; (with_reducible refine (HG.out W (hx.below hW.1.below (Nat.le_refl _))).mono ?_); rintro e w2 ⟨rfl, hb2⟩; exact ⟨rfl, heldC1_step hb2 hW⟩) | (go_at_call 18; (with_reducible refine (HM.out W (hx.below hW.1.below (Nat.le_refl _))).mono ?_); rintro e w2 ⟨rfl, rfl⟩; exact ⟨rfl, hW⟩))); simp only [Act.put, List.setIfInBounds_toArray, List.set_cons_zero, List.set_cons_succ]; go_big_quiet_on)))
  refine wpQuiet_nil ?_
  rintro w' ⟨i1, f0⟩
  go_wp2
  go_ret
  exact Val.mk' (v_int HV.out.symm) (by (repeat (first | exact In.refl _ | assumption | apply In.alloc | apply In.drewN | apply In.drew | (refine In.step ?_ (by assumption)))))
end Go.Proofs.Ytjcmdmiafeaeoad
