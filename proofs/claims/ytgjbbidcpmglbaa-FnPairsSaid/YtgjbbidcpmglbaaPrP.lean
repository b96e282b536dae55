/- FnPairs: the plain facts. -/
import Derived.Test.YtgjbbidcpmglbaaFewb
import Derived.Test.YtgjbbidcpmglbaaE10b
import Derived.Test.YtgjbbidcpmglbaaD10
import Derived.Test.YtgjbbidcpmglbaaDsBread
namespace Go.Proofs.Ytgjbbidcpmglbaa
open Go.ChangeShapes Go.WideShapes Go.ChangeAt Go.RowKit
set_option linter.unusedVariables false
set_option linter.unusedSimpArgs false
set_option maxHeartbeats 2000000

theorem ap_chain {xs : List BreadR} {n : Nat} (hin : ∀ i, i < n → 100 ≤ loI xs i ∧ loI xs i ≤ hiI xs i ∧ hiI xs i ≤ 350) : ∀ (f : Nat) (h : Int), 351 - h ≤ f →
    (∀ y ∈ apF xs n f h, ∃ t : Nat, y = t ∧ t < n ∧ h < loI xs t) ∧ (apF xs n f h).Pairwise (fun x y => hiI xs x.toNat < loI xs y.toNat) ∧
    (∀ k, k < n → h < loI xs k → ∃ y ∈ apF xs n f h, loI xs k ≤ hiI xs y.toNat ∧ hiI xs y.toNat ≤ hiI xs k) := by
  intro f
  induction f with
  | zero =>
    intro h hf
    refine ⟨fun y hy => (by cases hy), List.Pairwise.nil, fun k hk hl => ?_⟩
    have := hin k hk
    omega
  | succ f ih =>
    intro h hf
    by_cases hn : nxI xs n h < 0
    · rw [apF_no hn]
      refine ⟨fun y hy => (List.not_mem_nil hy).elim, List.Pairwise.nil, fun k hk hl => ?_⟩
      exfalso
      obtain ⟨u, hu, rfl⟩ := ap_surj xs n k hk
      have := fstP_neg.1 hn u hu
      unfold nxP at this
      have := of_decide_eq_false this
      omega
    · obtain ⟨v, hv, e1, e2, h1, h2⟩ := nx_at hn
      have ht := apN_in (xs := xs) hv
      have htb := hin _ ht
      obtain ⟨i1, i2, i3⟩ := ih (hiI xs (apN xs n v)) (by omega)
      rw [apF_yes hn (f + 1) (by omega), e2, Int.toNat_natCast, Nat.add_sub_cancel]
      refine ⟨fun y hy => ?_, List.pairwise_cons.2 ⟨fun y hy => ?_, i2⟩, fun k hk hl => ?_⟩
      · rcases List.mem_cons.1 hy with rfl | hy
        · exact ⟨_, rfl, ht, h1⟩
        · obtain ⟨t, rfl, h3, h4⟩ := i1 y hy
          exact ⟨t, rfl, h3, by omega⟩
      · obtain ⟨t, rfl, h3, h4⟩ := i1 y hy
        rw [Int.toNat_natCast, Int.toNat_natCast]
        exact h4
      · obtain ⟨u, hu, rfl⟩ := ap_surj xs n k hk
        have hub := hin _ hk
        by_cases hc : loI xs (apN xs n u) ≤ hiI xs (apN xs n v)
        · refine ⟨_, List.mem_cons_self, by rw [Int.toNat_natCast]; exact hc, ?_⟩
          rw [Int.toNat_natCast]
          rcases Nat.lt_trichotomy u v with e | e | e
          · exact absurd hl (h2 u e)
          · subst e; exact Int.le_refl _
          · rcases ap_sorted xs n v u e hu with q | q <;> omega
        · obtain ⟨y, hy, h3, h4⟩ := i3 _ hk (by omega)
          exact ⟨y, List.mem_cons_of_mem _ hy, h3, h4⟩
theorem lowT_all {xs : List BreadR} : ∀ (n : Nat), 100 ≤ lowT xs n ∧ (∀ k, k < n → (xs.getD k z10).f0 ≤ lowT xs n) ∧ ∀ m : Int, 100 ≤ m → (∀ k, k < n → (xs.getD k z10).f0 ≤ m) → lowT xs n ≤ m
  | 0 => ⟨Int.le_refl _, fun k hk => absurd hk (Nat.not_lt_zero k), fun m hm _ => hm⟩
  | n + 1 => by
    obtain ⟨h0, h1, h2⟩ := lowT_all (xs := xs) n
    rw [lowT_succ]
    refine ⟨by omega, fun k hk => ?_, fun m hm ha => ?_⟩
    · by_cases e : k = n
      · subst e; omega
      · have := h1 k (by omega); omega
    · have := h2 m hm fun k hk => ha k (by omega)
      have := ha n (by omega)
      omega
theorem highT_all {xs : List BreadR} : ∀ (n : Nat), highT xs n ≤ 350 ∧ (∀ k, k < n → highT xs n ≤ (xs.getD k z10).f1) ∧ ∀ m : Int, m ≤ 350 → (∀ k, k < n → m ≤ (xs.getD k z10).f1) → m ≤ highT xs n
  | 0 => ⟨Int.le_refl _, fun k hk => absurd hk (Nat.not_lt_zero k), fun m hm _ => hm⟩
  | n + 1 => by
    obtain ⟨h0, h1, h2⟩ := highT_all (xs := xs) n
    rw [highT_succ]
    refine ⟨by omega, fun k hk => ?_, fun m hm ha => ?_⟩
    · by_cases e : k = n
      · subst e; omega
      · have := h1 k (by omega); omega
    · have := h2 m hm fun k hk => ha k (by omega)
      have := ha n (by omega)
      omega
def miG (xs : List BreadR) (i : Nat) : Int := (xs.getD i z10).f2
def miM (xs : List BreadR) : Nat → Int
  | 0 => 0
  | k + 1 => max (miM xs k) (xs.getD k z10).f2
theorem miM_succ (xs : List BreadR) (k : Nat) : miM xs (k + 1) = max (miM xs k) (xs.getD k z10).f2 := rfl
theorem sh_le {xs : List BreadR} (h : Int) : ∀ n : Nat, (∀ i, i < n → 1 ≤ (xs.getD i z10).f2) → 0 ≤ shM xs h n ∧ shM xs h n ≤ miM xs n ∧ 0 ≤ sumTo (miG xs) n - miM xs n ∧ sumTo (shG xs h) n - shM xs h n ≤ sumTo (miG xs) n - miM xs n ∧ ((∀ i, i < n → inB h (xs.getD i z10).f0 (xs.getD i z10).f1 = true) → sumTo (shG xs h) n - shM xs h n = sumTo (miG xs) n - miM xs n ∧ shM xs h n = miM xs n)
  | 0, _ => by simp [sumTo, shM, miM]
  | n + 1, hp => by
    obtain ⟨i0, i1, i2, i3, i4⟩ := sh_le h n fun i hi => hp i (by omega)
    have h1 := hp n (by omega)
    rw [sumTo_succ, sumTo_succ, shM_succ, miM_succ]
    rw [show shG xs h n = (if inB h (xs.getD n z10).f0 (xs.getD n z10).f1 then (xs.getD n z10).f2 else 0) from rfl, show miG xs n = (xs.getD n z10).f2 from rfl]
    generalize hm : (xs.getD n z10).f2 = m at *
    cases hb : inB h (xs.getD n z10).f0 (xs.getD n z10).f1
    · simp only [Bool.false_eq_true, if_false, Int.add_zero]
      refine ⟨i0, by omega, by omega, by omega, fun ha => ?_⟩
      have := ha n (by omega)
      rw [hb] at this; cases this
    · simp only [if_true]
      refine ⟨by omega, by omega, by omega, by omega, fun ha => ?_⟩
      obtain ⟨j1, j2⟩ := i4 fun i hi => ha i (by omega)
      constructor
      · omega
      · omega
theorem maxT_le {f : Int → Int} {c : Int} (hc : 0 ≤ c) (h : ∀ x, f x ≤ c) : ∀ k, 0 ≤ maxT f k ∧ maxT f k ≤ c
  | 0 => ⟨Int.le_refl _, hc⟩
  | k + 1 => by have := maxT_le hc h k; have := h (100 + (k : Int)); rw [maxT_succ]; omega
theorem maxT_ge {f : Int → Int} : ∀ k j : Nat, j < k → f (100 + (j : Int)) ≤ maxT f k
  | 0, j, hj => absurd hj (Nat.not_lt_zero j)
  | k + 1, j, hj => by
    rw [maxT_succ]
    by_cases e : j = k
    · subst e; omega
    · have := maxT_ge (f := f) k j (by omega); omega
theorem mi_in {xs : List BreadR} : ∀ n : Nat, (∀ i, i < n → 1 ≤ (xs.getD i z10).f2 ∧ (xs.getD i z10).f2 ≤ 59) → 0 ≤ sumTo (miG xs) n ∧ sumTo (miG xs) n ≤ 59 * n ∧ 0 ≤ miM xs n ∧ miM xs n ≤ 59
  | 0, _ => by simp [sumTo, miM]
  | n + 1, h => by
    have ih := mi_in n fun i hi => h i (by omega)
    have h1 := h n (by omega)
    rw [sumTo_succ, miM_succ]
    unfold miG at ih ⊢
    push_cast
    omega
theorem share_is {a b c d e f : Int} (h1 : breadB a b c = true) (h2 : breadB d e f = true) : shareB a b c d e f = decide (a ≤ e ∧ d ≤ b) := by
  have b1 := bread_in h1
  have b2 := bread_in h2
  have hB : breadsB 2 [⟨a, b, c⟩, ⟨d, e, f⟩] = true := by
    rw [breads_n fun i hi => by
      rcases (show i = 0 ∨ i = 1 by omega) with rfl | rfl
      · exact h1
      · exact h2]
    rfl
  unfold shareB commB
  rw [hB]
  simp only [lowT_succ, highT_succ, show ∀ x : List BreadR, lowT x 0 = 100 from fun _ => rfl, show ∀ x : List BreadR, highT x 0 = 350 from fun _ => rfl, List.getD_cons_zero, List.getD_cons_succ]
  rw [show (true && !(decide (2 = 0))) = true from rfl, Bool.true_and, decide_eq_decide]
  omega
theorem long_nil : longV 0 [] = 0 := by
  have : ∀ k, maxT (shF 0 []) k = 0 := by
    intro k
    induction k with
    | zero => rfl
    | succ k ih => rw [maxT_succ, ih]; simp [shF, sumTo, shM]
  unfold longV
  rw [show breadsB 0 [] = true from rfl, if_pos rfl, this]
abbrev PB (xs : List BreadR) (n : Nat) : Prop := ∀ i, i < n → (fun v : BreadR => (160 ≤ v.f0 ∧ v.f0 ≤ 255) ∧ (v.f0 ≤ v.f1 ∧ v.f1 ≤ v.f0 + 40) ∧ 10 ≤ v.f2 ∧ v.f2 ≤ 59) (xs.getD i ⟨0, 0, 0⟩)
theorem getD_mem10 {xs : List Int} {k : Nat} (h : k < xs.length) : xs.getD k 0 ∈ xs := by
  rw [List.getD_eq_getElem?_getD, List.getElem?_eq_getElem h]
  simp
theorem pairs_law {n : Nat} {xs : List BreadR} (hn : n ≤ 6) (hx : PB xs n) :
    breadsB n xs = true ∧ (∀ k, k < n → breadB (xs.getD k z10).f0 (xs.getD k z10).f1 (xs.getD k z10).f2 = true ∧ shareB (xs.getD k z10).f0 (xs.getD k z10).f1 (xs.getD k z10).f2 (xs.getD k z10).f0 (xs.getD k z10).f1 (xs.getD k z10).f2 = true) ∧
    ∃ (A F : List Int) (m : Nat) (ok : Bool) (low high s : Int), ApartBreadsL n xs = A ∧ FewestHeatsL n xs = F ∧ A.length = m ∧ F.length = m ∧ m ≤ 400 ∧ (m = 0 ↔ n = 0) ∧
      (∀ i, i < m → ∃ t : Nat, t < n ∧ A.getD i 0 = t ∧ F.getD i 0 = (xs.getD t z10).f1) ∧ (∀ i, i + 1 < m → F.getD i 0 < F.getD (i + 1) 0) ∧
      (∀ i k, k < i → i < m → ∀ t u : Nat, A.getD i 0 = t → A.getD k 0 = u → shareB (xs.getD t z10).f0 (xs.getD t z10).f1 (xs.getD t z10).f2 (xs.getD u z10).f0 (xs.getD u z10).f1 (xs.getD u z10).f2 = false) ∧
      (∀ k, k < n → ∃ i, i < m ∧ (xs.getD k z10).f0 ≤ F.getD i 0 ∧ F.getD i 0 ≤ (xs.getD k z10).f1) ∧
      commonV n xs = .tuple #[.int .i64 low, .int .i64 high, .bool ok] ∧ ok = decide (m = 1) ∧ (ok = true → low ≤ high ∧ ∀ k, k < n → (xs.getD k z10).f0 ≤ low ∧ high ≤ (xs.getD k z10).f1) ∧
      longV n xs = s ∧ 0 ≤ s ∧ s ≤ sumTo (miG xs) n - miM xs n ∧ (ok = true → s = sumTo (miG xs) n - miM xs n) := by
  have hx' : ∀ i, i < n → (160 ≤ (xs.getD i z10).f0 ∧ (xs.getD i z10).f0 ≤ 255) ∧ ((xs.getD i z10).f0 ≤ (xs.getD i z10).f1 ∧ (xs.getD i z10).f1 ≤ (xs.getD i z10).f0 + 40) ∧ 10 ≤ (xs.getD i z10).f2 ∧ (xs.getD i z10).f2 ≤ 59 := fun i hi => hx i hi
  have hb : ∀ k, k < n → breadB (xs.getD k z10).f0 (xs.getD k z10).f1 (xs.getD k z10).f2 = true := fun k hk => by
    have := hx' k hk
    unfold breadB
    rw [inB_t (by omega), inB_t (by omega), inB_t (by omega)]
    rfl
  have hB : breadsB n xs = true := by rw [breads_n fun i hi => hb i hi]; exact decide_eq_true (by omega)
  have hin : ∀ i, i < n → 100 ≤ loI xs i ∧ loI xs i ≤ hiI xs i ∧ hiI xs i ≤ 350 := fun i hi => by have := hx' i hi; unfold loI hiI; omega
  obtain ⟨c1, c2, c3⟩ := ap_chain hin 400 0 (by omega)
  have hA : ApartBreadsL n xs = apF xs n 400 0 := by unfold ApartBreadsL; rw [if_pos hB]
  have hF : FewestHeatsL n xs = (apF xs n 400 0).map fun i => hiI xs i.toNat := by unfold FewestHeatsL; rw [hA]
  obtain ⟨A, hAA⟩ : ∃ A, apF xs n 400 0 = A := ⟨_, rfl⟩
  have hlen : A.length ≤ 400 := by rw [← hAA]; exact apF_len xs n 400 0
  rw [hAA] at c1 c2 c3 hA hF
  have hFi : ∀ i, i < A.length → (A.map fun i => hiI xs i.toNat).getD i 0 = hiI xs (A.getD i 0).toNat := fun i hi => by
    simp [List.getD_eq_getElem?_getD, List.getElem?_eq_getElem hi]
  have hpw : ∀ i k, k < i → i < A.length → hiI xs (A.getD k 0).toNat < loI xs (A.getD i 0).toNat := fun i k hki hi => by
    have := List.pairwise_iff_getElem.1 c2 k i (by omega) hi hki
    rwa [List.getD_eq_getElem?_getD, List.getD_eq_getElem?_getD, List.getElem?_eq_getElem hi, List.getElem?_eq_getElem (show k < A.length by omega)]
  have hat : ∀ i, i < A.length → ∃ t : Nat, t < n ∧ A.getD i 0 = t := fun i hi => by
    obtain ⟨t, e, h1, _⟩ := c1 _ (getD_mem10 hi)
    exact ⟨t, h1, e⟩
  have hcov : ∀ k, k < n → ∃ i, i < A.length ∧ (xs.getD k z10).f0 ≤ hiI xs (A.getD i 0).toNat ∧ hiI xs (A.getD i 0).toNat ≤ (xs.getD k z10).f1 := fun k hk => by
    obtain ⟨y, hy, h1, h2⟩ := c3 k hk (by have := hin k hk; omega)
    obtain ⟨i, hi, rfl⟩ := List.getElem_of_mem hy
    refine ⟨i, hi, ?_⟩
    have e : A.getD i 0 = A[i] := by rw [List.getD_eq_getElem?_getD, List.getElem?_eq_getElem hi]; rfl
    rw [e]
    exact ⟨h1, h2⟩
  have hzero : A.length = 0 ↔ n = 0 := by
    constructor
    · intro h
      rcases Nat.eq_zero_or_pos n with e | e
      · exact e
      · obtain ⟨i, hi, _⟩ := hcov 0 e; omega
    · intro h
      rcases Nat.eq_zero_or_pos A.length with e | e
      · exact e
      · obtain ⟨t, ht, _⟩ := hat 0 e; omega
  obtain ⟨l0, l1, l2⟩ := lowT_all (xs := xs) n
  obtain ⟨g0, g1, g2⟩ := highT_all (xs := xs) n
  have hok : commB n xs = decide (A.length = 1) := by
    unfold commB
    rw [hB, Bool.true_and]
    rcases Nat.eq_zero_or_pos n with e | e
    · have := hzero.2 e
      rw [this, e]; rfl
    · have hne : ¬ n = 0 := by omega
      have hAp : 0 < A.length := by
        rcases Nat.eq_zero_or_pos A.length with e2 | e2
        · exact absurd (hzero.1 e2) hne
        · exact e2
      rw [decide_eq_false hne, show ∀ b : Bool, ((!false) && b) = b from fun b => rfl, decide_eq_decide]
      constructor
      · intro hle
        by_cases h2 : 2 ≤ A.length
        · exfalso
          have h3 := hpw 1 0 (by omega) (by omega)
          obtain ⟨t0, ht0, e0⟩ := hat 0 (by omega)
          obtain ⟨t1, ht1, e1⟩ := hat 1 (by omega)
          rw [e0, e1, Int.toNat_natCast, Int.toNat_natCast] at h3
          have h4 := l1 t1 ht1
          have h5 := g1 t0 ht0
          unfold loI hiI at h3
          omega
        · omega
      · intro h1
        obtain ⟨t0, ht0, e0⟩ := hat 0 (by omega)
        have hall : ∀ k, k < n → (xs.getD k z10).f0 ≤ hiI xs t0 ∧ hiI xs t0 ≤ (xs.getD k z10).f1 := fun k hk => by
          obtain ⟨i, hi, h2, h3⟩ := hcov k hk
          obtain rfl : i = 0 := by omega
          rw [e0, Int.toNat_natCast] at h2 h3
          exact ⟨h2, h3⟩
        have hb0 := hin t0 ht0
        have h6 := l2 (hiI xs t0) (by omega) fun k hk => (hall k hk).1
        have h7 := g2 (hiI xs t0) (by omega) fun k hk => (hall k hk).2
        omega
  have hmi : ∀ i, i < n → 1 ≤ (xs.getD i z10).f2 := fun i hi => by have := hx' i hi; omega
  have hsl := fun h => sh_le h n hmi
  have hL : longV n xs = maxT (shF n xs) 251 := by unfold longV; rw [if_pos hB]
  have hd0 := (hsl 0).2.2.1
  have hmx := maxT_le hd0 (fun h => (hsl h).2.2.2.1) 251 (f := shF n xs)
  refine ⟨hB, fun k hk => ⟨hb k hk, ?_⟩, A, A.map fun i => hiI xs i.toNat, A.length, commB n xs, if commB n xs then lowT xs n else 0, if commB n xs then highT xs n else 0, _, hA, hF, rfl, by simp, hlen, hzero, fun i hi => ?_, fun i hi => ?_, fun i k hki hi t u et eu => ?_, fun k hk => ?_, ?_, hok, fun h => ?_, hL, hmx.1, hmx.2, fun h => ?_⟩
  · rw [share_is (hb k hk) (hb k hk)]
    exact decide_eq_true (by have := hx' k hk; omega)
  · obtain ⟨t, ht, e⟩ := hat i hi
    refine ⟨t, ht, e, ?_⟩
    rw [hFi i hi, e, Int.toNat_natCast]
    rfl
  · rw [hFi i (by omega), hFi (i + 1) hi]
    have h1 := hpw (i + 1) i (by omega) hi
    obtain ⟨t, ht, e⟩ := hat (i + 1) hi
    rw [e, Int.toNat_natCast] at h1 ⊢
    have := hin t ht
    omega
  · have h1 := hpw i k hki hi
    rw [et, eu, Int.toNat_natCast, Int.toNat_natCast] at h1
    obtain ⟨t', ht, e'⟩ := hat i hi
    obtain ⟨u', hu, e2⟩ := hat k (by omega)
    obtain rfl : t' = t := by omega
    obtain rfl : u' = u := by omega
    rw [share_is (hb _ ht) (hb _ hu)]
    refine decide_eq_false fun hc => ?_
    unfold loI hiI at h1
    omega
  · obtain ⟨i, hi, h1, h2⟩ := hcov k hk
    refine ⟨i, hi, ?_⟩
    rw [hFi i hi]
    exact ⟨h1, h2⟩
  · unfold commonV
    cases hc : commB n xs <;> simp
  · rw [if_pos h, if_pos h]
    refine ⟨?_, fun k hk => ⟨l1 k hk, g1 k hk⟩⟩
    unfold commB at h
    simp only [Bool.and_eq_true, decide_eq_true_eq] at h
    exact h.2
  · have hle : lowT xs n ≤ highT xs n := by
      unfold commB at h
      simp only [Bool.and_eq_true, decide_eq_true_eq] at h
      exact h.2
    have h1 := ((hsl (lowT xs n)).2.2.2.2 fun i hi => inB_t ⟨l1 i hi, Int.le_trans hle (g1 i hi)⟩).1
    have h2 := maxT_ge (f := shF n xs) 251 (lowT xs n - 100).toNat (by omega)
    rw [show 100 + (((lowT xs n - 100).toNat : Nat) : Int) = lowT xs n by omega] at h2
    have h3 := hmx.2
    unfold shF at h2 h3 ⊢
    omega
end Go.Proofs.Ytgjbbidcpmglbaa
