/- The law FnBakings. -/
import Derived.Test.YtkaaebpoljnbnaaJ15
import Derived.Test.YtkaaebpoljnbnaaH15
import Derived.Test.YtkaaebpoljnbnaaDsOdds
import Derived.Test.YtkaaebpoljnbnaaAtAll
import Derived.Test.YtkaaebpoljnbnaaQuietL
import Derived.BigQuiet
import Derived.Deep.QuietTactic
namespace Go.Proofs.Ytkaaebpoljnbnaa
open Go.ChangeShapes Go.WideShapes Go.ChangeAt Go.RowKit
set_option linter.unusedVariables false
set_option linter.unusedSimpArgs false
set_option maxHeartbeats 2000000

def wG (xs : List OddsR) (i : Nat) : Int := (xs.getD i z15).f1
theorem gG_step (xs : List OddsR) (b g d : Int) (i : Nat) : gG xs (b + 1) g d i = gG xs b g d i + (g * soG xs b i - d * wG xs i) := by
  unfold gG soG wG
  generalize (xs.getD i z15).f0 = f
  generalize (xs.getD i z15).f1 = w
  by_cases h : b < f
  · rw [if_pos h, show min (b + 1) f = b + 1 by omega, show min b f = b by omega]
    grind
  · rw [if_neg h, show min (b + 1) f = f by omega, show min b f = f by omega]
    grind
theorem gain_step (xs : List OddsR) (b g d : Int) : ∀ n : Nat, gainS n xs (b + 1) g d = gainS n xs b g d + (g * sumTo (soG xs b) n - d * sumTo (wG xs) n)
  | 0 => by simp [gainS, sumTo]
  | n + 1 => by
    have ih := gain_step xs b g d n
    unfold gainS at ih ⊢
    rw [sumTo_succ, sumTo_succ, sumTo_succ, sumTo_succ, ih, gG_step]
    generalize sumTo (gG xs b g d) n = A
    generalize sumTo (soG xs b) n = B
    generalize sumTo (wG xs) n = C
    grind
theorem gain_zero (xs : List OddsR) (g d : Int) : ∀ n : Nat, (∀ i, i < n → 0 ≤ (xs.getD i z15).f0) → gainS n xs 0 g d = 0
  | 0, _ => rfl
  | n + 1, h => by
    have ih := gain_zero xs g d n fun i hi => h i (by omega)
    unfold gainS at ih ⊢
    rw [sumTo_succ, ih]
    unfold gG
    rw [show min 0 (xs.getD n z15).f0 = 0 by have := h n (by omega); omega]
    simp
theorem so_zero (xs : List OddsR) (b : Int) : ∀ n : Nat, (∀ i, i < n → (xs.getD i z15).f0 ≤ b) → sumTo (soG xs b) n = 0
  | 0, _ => rfl
  | n + 1, h => by
    rw [sumTo_succ, so_zero xs b n fun i hi => h i (by omega)]
    unfold soG
    rw [if_neg (by have := h n (by omega); omega)]
    rfl
theorem so_le (xs : List OddsR) (b c : Int) (hbc : b ≤ c) : ∀ n : Nat, (∀ i, i < n → 1 ≤ (xs.getD i z15).f1) → 0 ≤ sumTo (soG xs c) n ∧ sumTo (soG xs c) n ≤ sumTo (soG xs b) n ∧ sumTo (soG xs b) n ≤ sumTo (wG xs) n
  | 0, _ => ⟨Int.le_refl _, Int.le_refl _, Int.le_refl _⟩
  | n + 1, h => by
    have ih := so_le xs b c hbc n fun i hi => h i (by omega)
    have h1 := h n (by omega)
    rw [sumTo_succ, sumTo_succ, sumTo_succ]
    have e1 : 0 ≤ soG xs c n ∧ soG xs c n ≤ soG xs b n ∧ soG xs b n ≤ wG xs n := by
      unfold soG wG
      split <;> split <;> omega
    omega
theorem w_in (xs : List OddsR) : ∀ n : Nat, (∀ i, i < n → 1 ≤ (xs.getD i z15).f1 ∧ (xs.getD i z15).f1 ≤ 9) → 0 ≤ sumTo (wG xs) n ∧ sumTo (wG xs) n ≤ 9 * n
  | 0, _ => ⟨Int.le_refl _, Int.le_refl _⟩
  | n + 1, h => by
    have ih := w_in xs n fun i hi => h i (by omega)
    have h1 := h n (by omega)
    rw [sumTo_succ]
    unfold wG at ih ⊢
    push_cast
    omega
theorem gainS_pre {n k : Nat} {xs : List OddsR} {b g d : Int} (h : ok15 n xs b g d = true) (hk : k ≤ n) : -200000000 ≤ gainS k xs b g d ∧ gainS k xs b g d ≤ 200000000 := by
  have hn : n ≤ 20 := by
    unfold ok15 oddsB at h
    simp only [Bool.and_eq_true] at h
    have := inB_tt h.1.1.1.1
    omega
  have := sumTo_abs (gG xs b g d) 10000000 k fun i hi => gG_in h i (by omega)
  unfold gainS
  omega
abbrev PO (xs : List OddsR) (n : Nat) : Prop := ∀ i, i < n → (fun v : OddsR => (10 ≤ v.f0 ∧ v.f0 ≤ 69) ∧ 1 ≤ v.f1 ∧ v.f1 ≤ 9) (xs.getD i ⟨0, 0⟩)
theorem bake_law {n : Nat} {xs : List OddsR} {g c m : Int} (hn : 1 ≤ n ∧ n ≤ 6) (hx : PO xs n) (hg : 1 ≤ g ∧ g ≤ 20) (hc : 0 ≤ c ∧ c ≤ g) (hm : 0 ≤ m ∧ m ≤ 255) :
    oddsB n xs = true ∧ ∃ b X Gm Gb1 Gb2 s sm all : Int, bestBV n xs g c = b ∧ (0 ≤ b ∧ b ≤ 1000) ∧ gainV n xs b g c = X ∧ gainV n xs m g c = Gm ∧ gainS n xs m g c = Gm ∧ Gm ≤ X ∧ betterB n xs m b g c = false ∧ betterB n xs b b g c = false ∧ gainV n xs (b + 1) g c = Gb2 ∧ Gb2 ≤ X ∧ (0 < b → gainV n xs (b - 1) g c = Gb1 ∧ Gb1 < X) ∧
      soV n xs b = s ∧ sumTo (wG xs) n = all ∧ (0 ≤ s ∧ s ≤ all) ∧ (0 ≤ all ∧ all ≤ 60) ∧ g * s ≤ c * all ∧ (0 < b → ∃ t : Int, soV n xs (b - 1) = t ∧ (0 ≤ t ∧ t ≤ all) ∧ c * all < g * t) ∧ soV n xs m = sm ∧ (b < m → sm ≤ s) ∧ soV n xs 1000 = 0 ∧ gainV n xs 0 g c = 0 := by
  have hz : (⟨0, 0⟩ : OddsR) = z15 := rfl
  have hx' : ∀ i, i < n → (10 ≤ (xs.getD i z15).f0 ∧ (xs.getD i z15).f0 ≤ 69) ∧ 1 ≤ (xs.getD i z15).f1 ∧ (xs.getD i z15).f1 ≤ 9 := fun i hi => hx i hi
  have hO : oddsB n xs = true := by
    rw [odds_n fun i hi => by have := hx' i hi; unfold odOk oddB; rw [inB_t (by omega), inB_t (by omega)]; rfl]
    exact inB_t (by omega)
  have hP : planB n xs g c = true := by unfold planB; rw [hO, inB_t (n := g) (by omega), inB_t (n := c) (by omega)]; rfl
  have hG : ∀ k : Int, 0 ≤ k → k ≤ 1000 → gainV n xs k g c = gainS n xs k g c := fun k h0 h1 => by unfold gainV; rw [plan_ok hP k ⟨h0, h1⟩]; rfl
  have hS : ∀ k : Int, 0 ≤ k → k ≤ 1000 → soV n xs k = sumTo (soG xs k) n := fun k h0 h1 => by unfold soV; rw [hO, inB_t ⟨h0, h1⟩]; rfl
  obtain ⟨K, hK⟩ : ∃ K, amax (bF n xs g c) 1001 = K := ⟨_, rfl⟩
  have hB : bestBV n xs g c = (K : Int) := by unfold bestBV; rw [hP, hK]; rfl
  obtain ⟨hK1, hK2, hK3⟩ : K < 1001 ∧ (∀ j, j < 1001 → bF n xs g c j ≤ bF n xs g c K) ∧ (∀ j, j < K → bF n xs g c j < bF n xs g c K) := by
    rw [← hK]; exact ⟨amax_lt _ _ (by omega), amax_max _ _, amax_first _ _⟩
  have hmax : ∀ k : Int, 0 ≤ k → k ≤ 1000 → gainS n xs k g c ≤ gainS n xs K g c := fun k h0 h1 => by
    have := hK2 k.toNat (by omega)
    unfold bF at this
    rwa [show ((k.toNat : Nat) : Int) = k by omega] at this
  have hw := w_in xs n fun i hi => (hx' i hi).2
  have hz0 := gain_zero xs g c n fun i hi => by have := hx' i hi; omega
  have h1000 := so_zero xs 1000 n fun i hi => by have := hx' i hi; omega
  have hsl := fun (a b : Int) (h : a ≤ b) => so_le xs a b h n fun i hi => (hx' i hi).2.1
  have hst := gain_step xs K g c n
  refine ⟨hO, K, _, _, gainV n xs (K - 1) g c, _, _, _, _, hB, by omega, rfl, rfl, (hG m hm.1 (by omega)).symm, ?_, ?_, ?_, rfl, ?_, fun h => ⟨rfl, ?_⟩, rfl, rfl, ?_, by omega, ?_, fun h => ⟨_, rfl, ?_, ?_⟩, rfl, fun h => ?_, ?_, ?_⟩
  · rw [hG m hm.1 (by omega), hG K (by omega) (by omega)]; exact hmax m hm.1 (by omega)
  · unfold betterB
    rw [plan_ok hP m ⟨hm.1, by omega⟩, plan_ok hP K ⟨by omega, by omega⟩]
    have := hmax m hm.1 (by omega)
    simp; omega
  · unfold betterB; simp
  · rw [hG K (by omega) (by omega)]
    by_cases h : (K : Int) + 1 ≤ 1000
    · rw [hG _ (by omega) h]; exact hmax _ (by omega) h
    · have : gainV n xs ((K : Int) + 1) g c = 0 := by
        unfold gainV ok15
        rw [inB_f (n := (K : Int) + 1) (by omega)]
        simp
      rw [this, ← hz0]
      exact hmax 0 (by omega) (by omega)
  · rw [hG _ (by omega) (by omega), hG K (by omega) (by omega)]
    have := hK3 (K - 1) (by omega)
    unfold bF at this
    rwa [show ((K - 1 : Nat) : Int) = (K : Int) - 1 by omega] at this
  · rw [hS K (by omega) (by omega)]
    have := hsl K K (Int.le_refl _)
    omega
  · rw [hS K (by omega) (by omega)]
    by_cases h : (K : Int) + 1 ≤ 1000
    · have := hmax _ (show 0 ≤ (K : Int) + 1 by omega) h
      omega
    · rw [show (K : Int) = 1000 by omega, h1000]
      have := Int.mul_nonneg hc.1 hw.1
      simpa using this
  · rw [hS _ (by omega) (by omega)]
    have := hsl ((K : Int) - 1) ((K : Int) - 1) (Int.le_refl _)
    omega
  · rw [hS _ (by omega) (by omega)]
    have h3 := hK3 (K - 1) (by omega)
    have h4 := gain_step xs ((K : Int) - 1) g c n
    unfold bF at h3
    rw [show ((K - 1 : Nat) : Int) = (K : Int) - 1 by omega] at h3
    rw [show (K : Int) - 1 + 1 = K by omega] at h4
    omega
  · rw [hS K (by omega) (by omega), hS m hm.1 (by omega)]
    exact (hsl K m (by omega)).2.1
  · rw [hS 1000 (by omega) (by omega)]; exact h1000
  · rw [hG 0 (by omega) (by omega)]; exact hz0
set_option maxHeartbeats 8000000 in
set_option maxRecDepth 20000 in
theorem walk_FnBakings (a0 : Option Addr) (len0 cap0 : Nat) (z0 : List Int) (w : World) (w0 : IsRow .u8 w a0 len0 cap0 z0) :
    Calls Try.prog 5 #[.slice a0 len0 cap0] w fun e w' => e = .returned (.bool true) ∧ Below w.heap.size w w' := by
  have hb := ReadsU.of_row w0
  have hm := hb.1
  clear w0
  by_cases hbig : (1048576 : Int) < (len0 : Int)
  · go_enter Try.func5, Try.ntmps5
    go_wp2_with fail
    refine (bigU _ _ _ _ hm true (by simpa using hbig)).mono ?_
    rintro e w' ⟨rfl, rfl⟩
    go_wp2_with fail
    go_ret
    exact ⟨rfl, Below.refl _ _⟩
  have HB := Lib.hid hb
  obtain ⟨x0, h0, A0⟩ := at_all a0 len0 cap0 0 w (by omega) (by omega) hb
  have HA0 := Lib.hid A0
  clear A0
  obtain ⟨x1, h1, A1⟩ := at_all a0 len0 cap0 1 w (by omega) (by omega) hb
  have HA1 := Lib.hid A1
  clear A1
  obtain ⟨x2, h2, A2⟩ := at_all a0 len0 cap0 2 w (by omega) (by omega) hb
  have HA2 := Lib.hid A2
  clear A2
  go_enter Try.func5, Try.ntmps5
  go_wp2_with fail
  refine (bigU _ _ _ _ hm false (by simpa using hbig)).mono ?_
  rintro e w' ⟨rfl, rfl⟩
  clear hbig hm hb
  have f0_0 : In w.heap.size w w := In.refl w
  have f0_1 := HB.out
  go_wp2_with fail
  refine (DrawOdds_c _ _ _ _ (bytes_of f0_1)).mono ?_
  rintro _ w1 ⟨A, cp, n, xs, rfl, hn, hx, hrd, hnc, hb1⟩
  have f1_0 : In w.heap.size w w1 := f0_0.step hb1
  have f1_1 : ReadsOdds w1 A n xs := hrd
  clear f0_0 f0_1
  clear hb1 hrd
  go_wp2_with fail
  refine (HA0.out _ f1_0).mono ?_
  rintro e w' ⟨rfl, rfl⟩
  have hg : 1 ≤ 1 + x0 % 20 ∧ 1 + x0 % 20 ≤ 20 := by omega
  go_wp2_with fail
  generalize 1 + x0 % 20 = g at *
  refine (HA1.out _ f1_0).mono ?_
  rintro e w' ⟨rfl, rfl⟩
  have hg1 : (0 : Int) < g + 1 := by omega
  have hcr := Int.emod_nonneg x1 (show g + 1 ≠ 0 by omega)
  have hcs := Int.emod_lt_of_pos x1 hg1
  have hgz : ¬ (g + 1 = 0) := by omega
  go_wp2_with fail
  have hc : 0 ≤ x1 % (g + 1) ∧ x1 % (g + 1) ≤ g := by omega
  generalize x1 % (g + 1) = c at *
  obtain ⟨hO, b, X, Gm, Gb1, Gb2, s, sm, all, eb, hb, eX, eGm, eGs, g1, g2, g3, eG2, g4, g5, es, ea, hs, hal, g6, g7, esm, g8, e1000, e0⟩ := bake_law (m := x2) hn hx hg hc h2
  clear h0 h1 HA0 HA1 HB hg1 hcr hcs hgz
  have HGX := Lib.hid (fun W h => iGainFor A n cp xs b g c W (by unfold maxLen; omega) h)
  rw [eX] at HGX
  have HGM := Lib.hid (fun W h => iGainFor A n cp xs x2 g c W (by unfold maxLen; omega) h)
  rw [eGm] at HGM
  have HG2 := Lib.hid (fun W h => iGainFor A n cp xs (b + 1) g c W (by unfold maxLen; omega) h)
  rw [eG2] at HG2
  have HG0 := Lib.hid (fun W h => iGainFor A n cp xs 0 g c W (by unfold maxLen; omega) h)
  rw [e0] at HG0
  have HS := Lib.hid (fun W h => iSoldOutWeight A n cp xs b W (by unfold maxLen; omega) h)
  rw [es] at HS
  have HSM := Lib.hid (fun W h => iSoldOutWeight A n cp xs x2 W (by unfold maxLen; omega) h)
  rw [esm] at HSM
  have HS9 := Lib.hid (fun W h => iSoldOutWeight A n cp xs 1000 W (by unfold maxLen; omega) h)
  rw [e1000] at HS9
  have HBB := Lib.hid (fun W h => iBestBake A n cp xs g c W (by unfold maxLen; omega) h)
  rw [eb] at HBB
  have HI1 := Lib.hid (fun W h => iIsBetter A n cp xs x2 b g c W (by unfold maxLen; omega) h)
  rw [g2] at HI1
  have HI2 := Lib.hid (fun W h => iIsBetter A n cp xs b b g c W (by unfold maxLen; omega) h)
  rw [g3] at HI2
  have HOK := Lib.hid (fun W h => iOddsOk A n cp xs W (by unfold maxLen; omega) h)
  rw [hO] at HOK
  have HGS := Lib.hid eGs
  have HEA := Lib.hid ea
  have HXP := Lib.hid hx
  have HWI := Lib.hid (fun k (hk : k ≤ n) => w_in xs k fun i hi => (hx i (by omega)).2)
  have HGI := Lib.hid (fun b1 g1_ g2_ g3_ => gG_in (n := n) (xs := xs) (b := b1) (g := g1_) (d := g2_) g3_)
  have HP9 := Lib.hid (show ok15 n xs x2 g c = true by unfold ok15; rw [hO, inB_t (n := x2) (by omega), inB_t (n := g) (by omega), inB_t (n := c) (by omega)]; rfl)
  clear hO eb eX eGm eGs g2 g3 eG2 es ea esm e1000 e0 hx
  refine (HBB.out _ f1_1).mono ?_
  rintro _ w2 ⟨rfl, hb2⟩
  have f2_0 : In w.heap.size w w2 := f1_0.step hb2
  have f2_1 : ReadsOdds w2 A n xs := f1_1.step hb2
  clear f1_0 f1_1
  clear hb2
  clear HBB
  have D1 : decide (b < 0) = false := decide_eq_false (by omega)
  have D2 : decide ((1000 : Int) < b) = false := decide_eq_false (by omega)
  go_wp2_with fail
  refine (HA2.out _ f2_0).mono ?_
  rintro e w' ⟨rfl, rfl⟩
  clear HA2 D1 D2
  go_wp2_with fail
  refine (HGX.out _ f2_1).mono ?_
  rintro _ w3 ⟨rfl, hb3⟩
  have f3_0 : In w.heap.size w w3 := f2_0.step hb3
  have f3_1 : ReadsOdds w3 A n xs := f2_1.step hb3
  clear f2_0 f2_1
  clear hb3
  clear HGX
  have HCL := Lib.hid (show ∀ W', In w.heap.size w W' ∧ ReadsOdds W' A n xs → ∀ W2, Below W'.heap.size W' W2 → In w.heap.size w W2 ∧ ReadsOdds W2 A n xs from fun W' h W2 hb => by
    obtain ⟨g0, g1⟩ := h
    exact ⟨g0.step hb, g1.step hb⟩)
  have d0 : decide (X < Gm) = false := decide_eq_false (by omega)
  have d1 : decide (X < Gb2) = false := decide_eq_false (by omega)
  have V1 : IntKind.i64.wrap (b + 1) = b + 1 := by rw [IntWalk.i64_in _ (by omega)]
  by_cases hbp : 0 < b
  · skip
    have d2 : decide (0 < b) = true := decide_eq_true hbp
    obtain ⟨eg1, hg1⟩ := g5 hbp
    have HG1 := Lib.hid (fun W h => iGainFor A n cp xs (b - 1) g c W (by unfold maxLen; omega) h)
    rw [eg1] at HG1
    have d3 : decide (X ≤ Gb1) = false := decide_eq_false (by omega)
    have V2 : IntKind.i64.wrap (b - 1) = b - 1 := by rw [IntWalk.i64_in _ (by omega)]
    clear eg1 hg1
    simp only []
    iterate 9 go_step
    (try rw [List.append_eq])
    (try rw [List.append_eq])
    (repeat rw [List.cons_append])
    (repeat rw [List.nil_append])
    refine wp_region_L (C := (fun w' => In w.heap.size w w' ∧ ReadsOdds w' A n xs)) ?_ ?_
    · exact ⟨f3_0, f3_1⟩
    repeat (first | go_big_quiet_skip | (go_big_quiet_want; first | (refine quiet_ex ?_; apply Exists.intro; refine ⟨fun W hW => ?_, ?_⟩; (· (obtain ⟨f4_0, f4_1⟩ := hW; go_simp; (first | done | with_reducible rfl | rfl))); simp only [Act.put, List.setIfInBounds_toArray, List.set_cons_zero, List.set_cons_succ]; go_big_quiet_on) | (refine quiet_ex ?_; apply Exists.intro; refine ⟨fun W hW => ?_, ?_⟩; (· (go_simp; first | (go_at_call 26; (with_reducible refine (HGM.out _ hW.2).mono ?_); rintro e w2 ⟨rfl, hb2⟩; exact ⟨rfl, HCL.out _ hW _ hb2⟩) | (go_at_call 27; (with_reducible refine (HI1.out _ hW.2).mono ?_); rintro e w2 ⟨rfl, hb2⟩; exact ⟨rfl, HCL.out _ hW _ hb2⟩) | (go_at_call 26; (with_reducible refine (HG2.out _ hW.2).mono ?_); rintro e w2 ⟨rfl, hb2⟩; exact ⟨rfl, HCL.out _ hW _ hb2⟩) | (go_at_call 26; (with_reducible refine (HG1.out _ hW.2).mono ?_); rintro e w2 ⟨rfl, hb2⟩; exact ⟨rfl, HCL.out _ hW _ hb2⟩))); simp only [Act.put, List.setIfInBounds_toArray, List.set_cons_zero, List.set_cons_succ]; go_big_quiet_on)))
    refine wpQuiet_nil ?_
    rintro w' ⟨f4_0, f4_1⟩
    clear f3_0 f3_1
    obtain ⟨u0_, hx9⟩ : ∃ x, x = w' := ⟨_, rfl⟩
    subst hx9
    clear d0 d1 d2 V1 HCL HG2 HI1 d3 V2 HG1
    as_aux_lemma =>
     go_wp2
     go_loopw [9, 10, 11] (fun a v i wr => ∃ k : Nat, k ≤ n ∧ i = .int .i64 k ∧ a = .int .i64 (sumTo (wG xs) k) ∧ v = .int .i64 (gainS k xs x2 g c) ∧ (In w.heap.size w wr ∧ ReadsOdds wr A n xs)) (fun _ _ i _ => n - (intOf i).toNat)
     case atStart => exact ⟨0, Nat.zero_le _, rfl, rfl, rfl, f4_0, f4_1⟩
     case round =>
       obtain ⟨k, hk, rfl, rfl, rfl, f5_0, f5_1⟩ := hrel
       clear f4_0 f4_1
       by_cases hlt : k < n
       · skip
         obtain ⟨ad, rfl, hc0, hc1⟩ := f5_1.2 k hlt
         have hxk := HXP.out k hlt
         (try simp only [] at hxk)
         have hwi := HWI.out k hk
         have hgi := HGI.out x2 g c HP9.out k hlt
         have hgk := gainS_pre HP9.out hk
         have HS1 := Lib.hid (show sumTo (wG xs) (k + 1) = sumTo (wG xs) k + (xs.getD k ⟨0, 0⟩).f1 from rfl)
         have HS2 := Lib.hid (show gainS (k + 1) xs x2 g c = gainS k xs x2 g c + (xs.getD k ⟨0, 0⟩).f1 * (g * min x2 (xs.getD k ⟨0, 0⟩).f0 - c * x2) from rfl)
         unfold gG at hgi
         rw [show (z15 : OddsR) = ⟨0, 0⟩ from rfl] at hgi
         generalize (xs.getD k ⟨0, 0⟩).f0 = u0 at *
         generalize (xs.getD k ⟨0, 0⟩).f1 = u1 at *
         generalize sumTo (wG xs) k = a9 at *
         generalize gainS k xs x2 g c = v9 at *
         obtain ⟨mu, hmu⟩ : ∃ mu, min x2 u0 = mu := ⟨_, rfl⟩
         rw [hmu] at HS2 hgi
         have hmu0 : 0 ≤ mu ∧ mu ≤ 69 := by omega
         have M1 : (if u0 < x2 then u0 else x2) = mu := by rw [← hmu]; split <;> omega
         have M2 : (if x2 < u0 then x2 else u0) = mu := by rw [← hmu]; split <;> omega
         have p1 : 0 ≤ g * mu ∧ g * mu ≤ 20 * 69 := mul_in (by omega) (by omega) (by omega) (by omega)
         have p2 : 0 ≤ c * x2 ∧ c * x2 ≤ 20 * 255 := mul_in (by omega) (by omega) (by omega) (by omega)
         obtain ⟨q1, hq1⟩ : ∃ q, g * mu = q := ⟨_, rfl⟩
         obtain ⟨q2, hq2⟩ : ∃ q, c * x2 = q := ⟨_, rfl⟩
         rw [hq1, hq2] at hgi HS2
         rw [hq1] at p1
         rw [hq2] at p2
         obtain ⟨q3, hq3⟩ : ∃ q, u1 * (q1 - q2) = q := ⟨_, rfl⟩
         rw [hq3] at hgi HS2
         have V1 : IntKind.i64.wrap (g * mu) = q1 := by rw [hq1]; exact IntWalk.i64_in _ (by omega)
         have V2 : IntKind.i64.wrap (c * x2) = q2 := by rw [hq2]; exact IntWalk.i64_in _ (by omega)
         have V3 : IntKind.i64.wrap (q1 - q2) = q1 - q2 := by rw [IntWalk.i64_in _ (by omega)]
         have V4 : IntKind.i64.wrap (u1 * (q1 - q2)) = q3 := by rw [hq3]; exact IntWalk.i64_in _ (by omega)
         have V5 : IntKind.i64.wrap (v9 + q3) = v9 + q3 := by rw [IntWalk.i64_in _ (by omega)]
         have V6 : wrap64 (a9 + u1) = a9 + u1 := w64 ⟨by omega, by omega⟩
         clear hq1 hq2 hq3 hmu hgi hgk
         have g3_ : (k : Int) < (n : Int) := by omega
         have g4_ : (0 : Int) ≤ (k : Int) := by omega
         go_wp2
         refine wp_region_S (C := (fun w' => In w.heap.size w w' ∧ ReadsOdds w' (some ad) n xs ∧ w'.cell? (ad.add (k * 2)) = some (.int .i64 u0) ∧ w'.cell? ⟨(ad.add (k * 2)).block, (ad.add (k * 2)).off + 1, none⟩ = some (.int .i64 u1))) (by kernel_rfl) (by kernel_rfl) ?_ ?_
         · exact ⟨f5_0.drew, f5_1, hc0, hc1⟩
         repeat (first | go_big_quiet_skip | (go_big_quiet_want; first | (refine quiet_ex ?_; apply Exists.intro; refine ⟨fun W hW => ?_, ?_⟩; (· (obtain ⟨f6_0, f6_1, f6_2, f6_3⟩ := hW; go_simp; (first | done | with_reducible rfl | rfl))); simp only [Act.put, List.setIfInBounds_toArray, List.set_cons_zero, List.set_cons_succ]; go_big_quiet_on) | (refine quiet_ex ?_; apply Exists.intro; refine ⟨fun W hW => ?_, ?_⟩; (· (go_simp; first | (fail))); simp only [Act.put, List.setIfInBounds_toArray, List.set_cons_zero, List.set_cons_succ]; go_big_quiet_on)))
         refine wpQuiet_nil ?_
         rintro w' ⟨f6_0, f6_1, f6_2, f6_3⟩
         clear f5_0 f5_1 hc0 hc1
         obtain ⟨u1_, hx9⟩ : ∃ x, x = w' := ⟨_, rfl⟩
         subst hx9
         clear V1 V2 V3 V4 V5 M1 M2
         go_wp2
         go_roundw
         case rel => exact ⟨k + 1, by omega, by go_num, by rw [HS1.out], by rw [HS2.out], f6_0, f6_1⟩
         case measure => simp [intOf]; omega
       · skip
         obtain rfl : n = k := by omega
         rw [HEA.out, HGS.out]
         clear hlt hk
         go_wp2_with fail
         refine (HS.out _ f5_1).mono ?_
         rintro _ w6 ⟨rfl, hb6⟩
         have f6_0 : In w.heap.size w w6 := f5_0.step hb6
         have f6_1 : ReadsOdds w6 A n xs := f5_1.step hb6
         clear f5_0 f5_1
         clear hb6
         clear HS
         obtain ⟨q1, hq1⟩ : ∃ q, g * s = q := ⟨_, rfl⟩
         obtain ⟨q2, hq2⟩ : ∃ q, c * all = q := ⟨_, rfl⟩
         rw [hq1, hq2] at g6
         have p1 : 0 ≤ g * s ∧ g * s ≤ 20 * 60 := mul_in (by omega) (by omega) (by omega) (by omega)
         have p2 : 0 ≤ c * all ∧ c * all ≤ 20 * 60 := mul_in (by omega) (by omega) (by omega) (by omega)
         rw [hq1] at p1
         rw [hq2] at p2
         have V1 : IntKind.i64.wrap (g * s) = q1 := by rw [hq1]; exact IntWalk.i64_in _ (by omega)
         have V2 : IntKind.i64.wrap (c * all) = q2 := by rw [hq2]; exact IntWalk.i64_in _ (by omega)
         have d1 : decide (s < 0) = false := decide_eq_false (by omega)
         have d2 : decide (all < s) = false := decide_eq_false (by omega)
         have d3 : decide (q2 < q1) = false := decide_eq_false (by omega)
         have d4 : decide (0 < b) = true := decide_eq_true hbp
         obtain ⟨t9, et, ht, h9⟩ := g7 hbp
         have HT1 := Lib.hid (fun W h => iSoldOutWeight A n cp xs (b - 1) W (by unfold maxLen; omega) h)
         rw [et] at HT1
         obtain ⟨q3, hq3⟩ : ∃ q, g * t9 = q := ⟨_, rfl⟩
         rw [hq2, hq3] at h9
         have p3 : 0 ≤ g * t9 ∧ g * t9 ≤ 20 * 60 := mul_in (by omega) (by omega) (by omega) (by omega)
         rw [hq3] at p3
         have V3 : IntKind.i64.wrap (g * t9) = q3 := by rw [hq3]; exact IntWalk.i64_in _ (by omega)
         have V4 : IntKind.i64.wrap (b - 1) = b - 1 := by rw [IntWalk.i64_in _ (by omega)]
         have d5 : decide (q3 ≤ q2) = false := decide_eq_false (by omega)
         clear hq3 et
         clear hq1 hq2
         have HCL := Lib.hid (show ∀ W', In w.heap.size w W' ∧ ReadsOdds W' A n xs → ∀ W2, Below W'.heap.size W' W2 → In w.heap.size w W2 ∧ ReadsOdds W2 A n xs from fun W' h W2 hb => by
           obtain ⟨g0, g1⟩ := h
           exact ⟨g0.step hb, g1.step hb⟩)
         simp only []
         iterate 9 go_step
         (try rw [List.append_eq])
         (try rw [List.append_eq])
         (repeat rw [List.cons_append])
         (repeat rw [List.nil_append])
         refine wp_region_L (C := (fun w' => In w.heap.size w w' ∧ ReadsOdds w' A n xs)) ?_ ?_
         · exact ⟨f6_0, f6_1⟩
         repeat (first | go_big_quiet_skip | (go_big_quiet_want; first | (refine quiet_ex ?_; apply Exists.intro; refine ⟨fun W hW => ?_, ?_⟩; (· (obtain ⟨f7_0, f7_1⟩ := hW; go_simp; (first | done | with_reducible rfl | rfl))); simp only [Act.put, List.setIfInBounds_toArray, List.set_cons_zero, List.set_cons_succ]; go_big_quiet_on) | (refine quiet_ex ?_; apply Exists.intro; refine ⟨fun W hW => ?_, ?_⟩; (· (go_simp; first | (go_at_call 28; (with_reducible refine (HT1.out _ hW.2).mono ?_); rintro e w2 ⟨rfl, hb2⟩; exact ⟨rfl, HCL.out _ hW _ hb2⟩))); simp only [Act.put, List.setIfInBounds_toArray, List.set_cons_zero, List.set_cons_succ]; go_big_quiet_on)))
         refine wpQuiet_nil ?_
         rintro w' ⟨f7_0, f7_1⟩
         clear f6_0 f6_1
         obtain ⟨u2_, hx9⟩ : ∃ x, x = w' := ⟨_, rfl⟩
         subst hx9
         clear V1 V2 d1 d2 d3 d4 HCL V3 V4 d5 HT1
         as_aux_lemma =>
          iterate 7 go_step
          have HCL := Lib.hid (show ∀ W', In w.heap.size w W' ∧ ReadsOdds W' A n xs → ∀ W2, Below W'.heap.size W' W2 → In w.heap.size w W2 ∧ ReadsOdds W2 A n xs from fun W' h W2 hb => by
            obtain ⟨g0, g1⟩ := h
            exact ⟨g0.step hb, g1.step hb⟩)
          by_cases hmb : x2 ≤ b
          · skip
            have d1 : decide (x2 ≤ b) = true := decide_eq_true hmb
            clear hmb
            refine wp_region_L (C := (fun w' => In w.heap.size w w' ∧ ReadsOdds w' A n xs)) ?_ ?_
            · exact ⟨f7_0, f7_1⟩
            repeat (first | go_big_quiet_skip | (go_big_quiet_want; first | (refine quiet_ex ?_; apply Exists.intro; refine ⟨fun W hW => ?_, ?_⟩; (· (obtain ⟨f8_0, f8_1⟩ := hW; go_simp; (first | done | with_reducible rfl | rfl))); simp only [Act.put, List.setIfInBounds_toArray, List.set_cons_zero, List.set_cons_succ]; go_big_quiet_on) | (refine quiet_ex ?_; apply Exists.intro; refine ⟨fun W hW => ?_, ?_⟩; (· (go_simp; first | (go_at_call 26; (with_reducible refine (HGM.out _ hW.2).mono ?_); rintro e w2 ⟨rfl, hb2⟩; exact ⟨rfl, HCL.out _ hW _ hb2⟩) | (go_at_call 28; (with_reducible refine (HS9.out _ hW.2).mono ?_); rintro e w2 ⟨rfl, hb2⟩; exact ⟨rfl, HCL.out _ hW _ hb2⟩) | (go_at_call 26; (with_reducible refine (HG0.out _ hW.2).mono ?_); rintro e w2 ⟨rfl, hb2⟩; exact ⟨rfl, HCL.out _ hW _ hb2⟩) | (go_at_call 27; (with_reducible refine (HI2.out _ hW.2).mono ?_); rintro e w2 ⟨rfl, hb2⟩; exact ⟨rfl, HCL.out _ hW _ hb2⟩) | (go_at_call 29; (with_reducible refine (HOK.out _ hW.2).mono ?_); rintro e w2 ⟨rfl, hb2⟩; exact ⟨rfl, HCL.out _ hW _ hb2⟩))); simp only [Act.put, List.setIfInBounds_toArray, List.set_cons_zero, List.set_cons_succ]; go_big_quiet_on)))
            refine wpQuiet_nil ?_
            rintro w' ⟨f8_0, f8_1⟩
            clear f7_0 f7_1
            go_wp2
            go_ret
            exact ⟨ret_bool rfl, f8_0.below⟩
          · skip
            have d1 : decide (x2 ≤ b) = false := decide_eq_false hmb
            have d2 : decide (sm ≤ s) = true := decide_eq_true (g8 (by omega))
            clear hmb
            refine wp_region_L (C := (fun w' => In w.heap.size w w' ∧ ReadsOdds w' A n xs)) ?_ ?_
            · exact ⟨f7_0, f7_1⟩
            repeat (first | go_big_quiet_skip | (go_big_quiet_want; first | (refine quiet_ex ?_; apply Exists.intro; refine ⟨fun W hW => ?_, ?_⟩; (· (obtain ⟨f8_0, f8_1⟩ := hW; go_simp; (first | done | with_reducible rfl | rfl))); simp only [Act.put, List.setIfInBounds_toArray, List.set_cons_zero, List.set_cons_succ]; go_big_quiet_on) | (refine quiet_ex ?_; apply Exists.intro; refine ⟨fun W hW => ?_, ?_⟩; (· (go_simp; first | (go_at_call 26; (with_reducible refine (HGM.out _ hW.2).mono ?_); rintro e w2 ⟨rfl, hb2⟩; exact ⟨rfl, HCL.out _ hW _ hb2⟩) | (go_at_call 28; (with_reducible refine (HS9.out _ hW.2).mono ?_); rintro e w2 ⟨rfl, hb2⟩; exact ⟨rfl, HCL.out _ hW _ hb2⟩) | (go_at_call 26; (with_reducible refine (HG0.out _ hW.2).mono ?_); rintro e w2 ⟨rfl, hb2⟩; exact ⟨rfl, HCL.out _ hW _ hb2⟩) | (go_at_call 27; (with_reducible refine (HI2.out _ hW.2).mono ?_); rintro e w2 ⟨rfl, hb2⟩; exact ⟨rfl, HCL.out _ hW _ hb2⟩) | (go_at_call 29; (with_reducible refine (HOK.out _ hW.2).mono ?_); rintro e w2 ⟨rfl, hb2⟩; exact ⟨rfl, HCL.out _ hW _ hb2⟩) | (go_at_call 28; (with_reducible refine (HSM.out _ hW.2).mono ?_); rintro e w2 ⟨rfl, hb2⟩; exact ⟨rfl, HCL.out _ hW _ hb2⟩))); simp only [Act.put, List.setIfInBounds_toArray, List.set_cons_zero, List.set_cons_succ]; go_big_quiet_on)))
            refine wpQuiet_nil ?_
            rintro w' ⟨f8_0, f8_1⟩
            clear f7_0 f7_1
            go_wp2
            go_ret
            exact ⟨ret_bool rfl, f8_0.below⟩
  · skip
    have d2 : decide (0 < b) = false := decide_eq_false (by omega)
    simp only []
    iterate 9 go_step
    (try rw [List.append_eq])
    (try rw [List.append_eq])
    (repeat rw [List.cons_append])
    (repeat rw [List.nil_append])
    refine wp_region_L (C := (fun w' => In w.heap.size w w' ∧ ReadsOdds w' A n xs)) ?_ ?_
    · exact ⟨f3_0, f3_1⟩
    repeat (first | go_big_quiet_skip | (go_big_quiet_want; first | (refine quiet_ex ?_; apply Exists.intro; refine ⟨fun W hW => ?_, ?_⟩; (· (obtain ⟨f4_0, f4_1⟩ := hW; go_simp; (first | done | with_reducible rfl | rfl))); simp only [Act.put, List.setIfInBounds_toArray, List.set_cons_zero, List.set_cons_succ]; go_big_quiet_on) | (refine quiet_ex ?_; apply Exists.intro; refine ⟨fun W hW => ?_, ?_⟩; (· (go_simp; first | (go_at_call 26; (with_reducible refine (HGM.out _ hW.2).mono ?_); rintro e w2 ⟨rfl, hb2⟩; exact ⟨rfl, HCL.out _ hW _ hb2⟩) | (go_at_call 27; (with_reducible refine (HI1.out _ hW.2).mono ?_); rintro e w2 ⟨rfl, hb2⟩; exact ⟨rfl, HCL.out _ hW _ hb2⟩) | (go_at_call 26; (with_reducible refine (HG2.out _ hW.2).mono ?_); rintro e w2 ⟨rfl, hb2⟩; exact ⟨rfl, HCL.out _ hW _ hb2⟩))); simp only [Act.put, List.setIfInBounds_toArray, List.set_cons_zero, List.set_cons_succ]; go_big_quiet_on)))
    refine wpQuiet_nil ?_
    rintro w' ⟨f4_0, f4_1⟩
    clear f3_0 f3_1
    obtain ⟨u0_, hx9⟩ : ∃ x, x = w' := ⟨_, rfl⟩
    subst hx9
    clear d0 d1 d2 V1 HCL HG2 HI1
    as_aux_lemma =>
     go_wp2
     go_loopw [9, 10, 11] (fun a v i wr => ∃ k : Nat, k ≤ n ∧ i = .int .i64 k ∧ a = .int .i64 (sumTo (wG xs) k) ∧ v = .int .i64 (gainS k xs x2 g c) ∧ (In w.heap.size w wr ∧ ReadsOdds wr A n xs)) (fun _ _ i _ => n - (intOf i).toNat)
     case atStart => exact ⟨0, Nat.zero_le _, rfl, rfl, rfl, f4_0, f4_1⟩
     case round =>
       obtain ⟨k, hk, rfl, rfl, rfl, f5_0, f5_1⟩ := hrel
       clear f4_0 f4_1
       by_cases hlt : k < n
       · skip
         obtain ⟨ad, rfl, hc0, hc1⟩ := f5_1.2 k hlt
         have hxk := HXP.out k hlt
         (try simp only [] at hxk)
         have hwi := HWI.out k hk
         have hgi := HGI.out x2 g c HP9.out k hlt
         have hgk := gainS_pre HP9.out hk
         have HS1 := Lib.hid (show sumTo (wG xs) (k + 1) = sumTo (wG xs) k + (xs.getD k ⟨0, 0⟩).f1 from rfl)
         have HS2 := Lib.hid (show gainS (k + 1) xs x2 g c = gainS k xs x2 g c + (xs.getD k ⟨0, 0⟩).f1 * (g * min x2 (xs.getD k ⟨0, 0⟩).f0 - c * x2) from rfl)
         unfold gG at hgi
         rw [show (z15 : OddsR) = ⟨0, 0⟩ from rfl] at hgi
         generalize (xs.getD k ⟨0, 0⟩).f0 = u0 at *
         generalize (xs.getD k ⟨0, 0⟩).f1 = u1 at *
         generalize sumTo (wG xs) k = a9 at *
         generalize gainS k xs x2 g c = v9 at *
         obtain ⟨mu, hmu⟩ : ∃ mu, min x2 u0 = mu := ⟨_, rfl⟩
         rw [hmu] at HS2 hgi
         have hmu0 : 0 ≤ mu ∧ mu ≤ 69 := by omega
         have M1 : (if u0 < x2 then u0 else x2) = mu := by rw [← hmu]; split <;> omega
         have M2 : (if x2 < u0 then x2 else u0) = mu := by rw [← hmu]; split <;> omega
         have p1 : 0 ≤ g * mu ∧ g * mu ≤ 20 * 69 := mul_in (by omega) (by omega) (by omega) (by omega)
         have p2 : 0 ≤ c * x2 ∧ c * x2 ≤ 20 * 255 := mul_in (by omega) (by omega) (by omega) (by omega)
         obtain ⟨q1, hq1⟩ : ∃ q, g * mu = q := ⟨_, rfl⟩
         obtain ⟨q2, hq2⟩ : ∃ q, c * x2 = q := ⟨_, rfl⟩
         rw [hq1, hq2] at hgi HS2
         rw [hq1] at p1
         rw [hq2] at p2
         obtain ⟨q3, hq3⟩ : ∃ q, u1 * (q1 - q2) = q := ⟨_, rfl⟩
         rw [hq3] at hgi HS2
         have V1 : IntKind.i64.wrap (g * mu) = q1 := by rw [hq1]; exact IntWalk.i64_in _ (by omega)
         have V2 : IntKind.i64.wrap (c * x2) = q2 := by rw [hq2]; exact IntWalk.i64_in _ (by omega)
         have V3 : IntKind.i64.wrap (q1 - q2) = q1 - q2 := by rw [IntWalk.i64_in _ (by omega)]
         have V4 : IntKind.i64.wrap (u1 * (q1 - q2)) = q3 := by rw [hq3]; exact IntWalk.i64_in _ (by omega)
         have V5 : IntKind.i64.wrap (v9 + q3) = v9 + q3 := by rw [IntWalk.i64_in _ (by omega)]
         have V6 : wrap64 (a9 + u1) = a9 + u1 := w64 ⟨by omega, by omega⟩
         clear hq1 hq2 hq3 hmu hgi hgk
         have g3_ : (k : Int) < (n : Int) := by omega
         have g4_ : (0 : Int) ≤ (k : Int) := by omega
         go_wp2
         refine wp_region_S (C := (fun w' => In w.heap.size w w' ∧ ReadsOdds w' (some ad) n xs ∧ w'.cell? (ad.add (k * 2)) = some (.int .i64 u0) ∧ w'.cell? ⟨(ad.add (k * 2)).block, (ad.add (k * 2)).off + 1, none⟩ = some (.int .i64 u1))) (by kernel_rfl) (by kernel_rfl) ?_ ?_
         · exact ⟨f5_0.drew, f5_1, hc0, hc1⟩
         repeat (first | go_big_quiet_skip | (go_big_quiet_want; first | (refine quiet_ex ?_; apply Exists.intro; refine ⟨fun W hW => ?_, ?_⟩; (· (obtain ⟨f6_0, f6_1, f6_2, f6_3⟩ := hW; go_simp; (first | done | with_reducible rfl | rfl))); simp only [Act.put, List.setIfInBounds_toArray, List.set_cons_zero, List.set_cons_succ]; go_big_quiet_on) | (refine quiet_ex ?_; apply Exists.intro; refine ⟨fun W hW => ?_, ?_⟩; (· (go_simp; first | (fail))); simp only [Act.put, List.setIfInBounds_toArray, List.set_cons_zero, List.set_cons_succ]; go_big_quiet_on)))
         refine wpQuiet_nil ?_
         rintro w' ⟨f6_0, f6_1, f6_2, f6_3⟩
         clear f5_0 f5_1 hc0 hc1
         obtain ⟨u1_, hx9⟩ : ∃ x, x = w' := ⟨_, rfl⟩
         subst hx9
         clear V1 V2 V3 V4 V5 M1 M2
         go_wp2
         go_roundw
         case rel => exact ⟨k + 1, by omega, by go_num, by rw [HS1.out], by rw [HS2.out], f6_0, f6_1⟩
         case measure => simp [intOf]; omega
       · skip
         obtain rfl : n = k := by omega
         rw [HEA.out, HGS.out]
         clear hlt hk
         go_wp2_with fail
         refine (HS.out _ f5_1).mono ?_
         rintro _ w6 ⟨rfl, hb6⟩
         have f6_0 : In w.heap.size w w6 := f5_0.step hb6
         have f6_1 : ReadsOdds w6 A n xs := f5_1.step hb6
         clear f5_0 f5_1
         clear hb6
         clear HS
         obtain ⟨q1, hq1⟩ : ∃ q, g * s = q := ⟨_, rfl⟩
         obtain ⟨q2, hq2⟩ : ∃ q, c * all = q := ⟨_, rfl⟩
         rw [hq1, hq2] at g6
         have p1 : 0 ≤ g * s ∧ g * s ≤ 20 * 60 := mul_in (by omega) (by omega) (by omega) (by omega)
         have p2 : 0 ≤ c * all ∧ c * all ≤ 20 * 60 := mul_in (by omega) (by omega) (by omega) (by omega)
         rw [hq1] at p1
         rw [hq2] at p2
         have V1 : IntKind.i64.wrap (g * s) = q1 := by rw [hq1]; exact IntWalk.i64_in _ (by omega)
         have V2 : IntKind.i64.wrap (c * all) = q2 := by rw [hq2]; exact IntWalk.i64_in _ (by omega)
         have d1 : decide (s < 0) = false := decide_eq_false (by omega)
         have d2 : decide (all < s) = false := decide_eq_false (by omega)
         have d3 : decide (q2 < q1) = false := decide_eq_false (by omega)
         have d4 : decide (0 < b) = false := decide_eq_false (by omega)
         clear hq1 hq2
         have HCL := Lib.hid (show ∀ W', In w.heap.size w W' ∧ ReadsOdds W' A n xs → ∀ W2, Below W'.heap.size W' W2 → In w.heap.size w W2 ∧ ReadsOdds W2 A n xs from fun W' h W2 hb => by
           obtain ⟨g0, g1⟩ := h
           exact ⟨g0.step hb, g1.step hb⟩)
         simp only []
         iterate 9 go_step
         (try rw [List.append_eq])
         (try rw [List.append_eq])
         (repeat rw [List.cons_append])
         (repeat rw [List.nil_append])
         refine wp_region_L (C := (fun w' => In w.heap.size w w' ∧ ReadsOdds w' A n xs)) ?_ ?_
         · exact ⟨f6_0, f6_1⟩
         repeat (first | go_big_quiet_skip | (go_big_quiet_want; first | (refine quiet_ex ?_; apply Exists.intro; refine ⟨fun W hW => ?_, ?_⟩; (· (obtain ⟨f7_0, f7_1⟩ := hW; go_simp; (first | done | with_reducible rfl | rfl))); simp only [Act.put, List.setIfInBounds_toArray, List.set_cons_zero, List.set_cons_succ]; go_big_quiet_on) | (refine quiet_ex ?_; apply Exists.intro; refine ⟨fun W hW => ?_, ?_⟩; (· (go_simp; first | (fail))); simp only [Act.put, List.setIfInBounds_toArray, List.set_cons_zero, List.set_cons_succ]; go_big_quiet_on)))
         refine wpQuiet_nil ?_
         rintro w' ⟨f7_0, f7_1⟩
         clear f6_0 f6_1
         obtain ⟨u2_, hx9⟩ : ∃ x, x = w' := ⟨_, rfl⟩
         subst hx9
         clear V1 V2 d1 d2 d3 d4 HCL
         as_aux_lemma =>
          iterate 7 go_step
          have HCL := Lib.hid (show ∀ W', In w.heap.size w W' ∧ ReadsOdds W' A n xs → ∀ W2, Below W'.heap.size W' W2 → In w.heap.size w W2 ∧ ReadsOdds W2 A n xs from fun W' h W2 hb => by
            obtain ⟨g0, g1⟩ := h
            exact ⟨g0.step hb, g1.step hb⟩)
          by_cases hmb : x2 ≤ b
          · skip
            have d1 : decide (x2 ≤ b) = true := decide_eq_true hmb
            clear hmb
            refine wp_region_L (C := (fun w' => In w.heap.size w w' ∧ ReadsOdds w' A n xs)) ?_ ?_
            · exact ⟨f7_0, f7_1⟩
            repeat (first | go_big_quiet_skip | (go_big_quiet_want; first | (refine quiet_ex ?_; apply Exists.intro; refine ⟨fun W hW => ?_, ?_⟩; (· (obtain ⟨f8_0, f8_1⟩ := hW; go_simp; (first | done | with_reducible rfl | rfl))); simp only [Act.put, List.setIfInBounds_toArray, List.set_cons_zero, List.set_cons_succ]; go_big_quiet_on) | (refine quiet_ex ?_; apply Exists.intro; refine ⟨fun W hW => ?_, ?_⟩; (· (go_simp; first | (go_at_call 26; (with_reducible refine (HGM.out _ hW.2).mono ?_); rintro e w2 ⟨rfl, hb2⟩; exact ⟨rfl, HCL.out _ hW _ hb2⟩) | (go_at_call 28; (with_reducible refine (HS9.out _ hW.2).mono ?_); rintro e w2 ⟨rfl, hb2⟩; exact ⟨rfl, HCL.out _ hW _ hb2⟩) | (go_at_call 26; (with_reducible refine (HG0.out _ hW.2).mono ?_); rintro e w2 ⟨rfl, hb2⟩; exact ⟨rfl, HCL.out _ hW _ hb2⟩) | (go_at_call 27; (with_reducible refine (HI2.out _ hW.2).mono ?_); rintro e w2 ⟨rfl, hb2⟩; exact ⟨rfl, HCL.out _ hW _ hb2⟩) | (go_at_call 29; (with_reducible refine (HOK.out _ hW.2).mono ?_); rintro e w2 ⟨rfl, hb2⟩; exact ⟨rfl, HCL.out _ hW _ hb2⟩))); simp only [Act.put, List.setIfInBounds_toArray, List.set_cons_zero, List.set_cons_succ]; go_big_quiet_on)))
            refine wpQuiet_nil ?_
            rintro w' ⟨f8_0, f8_1⟩
            clear f7_0 f7_1
            go_wp2
            go_ret
            exact ⟨ret_bool rfl, f8_0.below⟩
          · skip
            have d1 : decide (x2 ≤ b) = false := decide_eq_false hmb
            have d2 : decide (sm ≤ s) = true := decide_eq_true (g8 (by omega))
            clear hmb
            refine wp_region_L (C := (fun w' => In w.heap.size w w' ∧ ReadsOdds w' A n xs)) ?_ ?_
            · exact ⟨f7_0, f7_1⟩
            repeat (first | go_big_quiet_skip | (go_big_quiet_want; first | (refine quiet_ex ?_; apply Exists.intro; refine ⟨fun W hW => ?_, ?_⟩; (· (obtain ⟨f8_0, f8_1⟩ := hW; go_simp; (first | done | with_reducible rfl | rfl))); simp only [Act.put, List.setIfInBounds_toArray, List.set_cons_zero, List.set_cons_succ]; go_big_quiet_on) | (refine quiet_ex ?_; apply Exists.intro; refine ⟨fun W hW => ?_, ?_⟩; (· (go_simp; first | (go_at_call 26; (with_reducible refine (HGM.out _ hW.2).mono ?_); rintro e w2 ⟨rfl, hb2⟩; exact ⟨rfl, HCL.out _ hW _ hb2⟩) | (go_at_call 28; (with_reducible refine (HS9.out _ hW.2).mono ?_); rintro e w2 ⟨rfl, hb2⟩; exact ⟨rfl, HCL.out _ hW _ hb2⟩) | (go_at_call 26; (with_reducible refine (HG0.out _ hW.2).mono ?_); rintro e w2 ⟨rfl, hb2⟩; exact ⟨rfl, HCL.out _ hW _ hb2⟩) | (go_at_call 27; (with_reducible refine (HI2.out _ hW.2).mono ?_); rintro e w2 ⟨rfl, hb2⟩; exact ⟨rfl, HCL.out _ hW _ hb2⟩) | (go_at_call 29; (with_reducible refine (HOK.out _ hW.2).mono ?_); rintro e w2 ⟨rfl, hb2⟩; exact ⟨rfl, HCL.out _ hW _ hb2⟩) | (go_at_call 28; (with_reducible refine (HSM.out _ hW.2).mono ?_); rintro e w2 ⟨rfl, hb2⟩; exact ⟨rfl, HCL.out _ hW _ hb2⟩))); simp only [Act.put, List.setIfInBounds_toArray, List.set_cons_zero, List.set_cons_succ]; go_big_quiet_on)))
            refine wpQuiet_nil ?_
            rintro w' ⟨f8_0, f8_1⟩
            clear f7_0 f7_1
            go_wp2
            go_ret
            exact ⟨ret_bool rfl, f8_0.below⟩
  end Go.Proofs.Ytkaaebpoljnbnaa
