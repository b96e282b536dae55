/- FnFolds: the plain facts. -/
import Derived.Test.YtgjbbidcpmglbaaGi11
import Derived.Test.YtgjbbidcpmglbaaJ11
import Derived.Test.YtgjbbidcpmglbaaD12
namespace Go.Proofs.Ytgjbbidcpmglbaa
open Go.ChangeShapes Go.WideShapes Go.ChangeAt Go.RowKit
set_option linter.unusedVariables false
set_option linter.unusedSimpArgs false
set_option maxHeartbeats 2000000

theorem prod_leaves (xs : List Int) : ∀ (d k : Nat), (∀ i, i < k + d → inAt xs 2 4 i = true) → prodTo xs (k + d) ∈ leaves d (prodTo xs k)
  | 0, k, _ => by simp [leaves]
  | d + 1, k, h => by
    have h1 := prod_leaves xs d (k + 1) fun i hi => h i (by omega)
    rw [show k + 1 + d = k + (d + 1) by omega, prodTo_succ] at h1
    have h2 := inB_tt (h k (by omega))
    rw [leaves, List.mem_append, List.mem_append]
    rcases (show xs.getD k 0 = 2 ∨ xs.getD k 0 = 3 ∨ xs.getD k 0 = 4 by omega) with e | e | e <;> rw [e] at h1
    · exact .inl (.inl h1)
    · exact .inl (.inr h1)
    · exact .inr h1
/-- the shortest folds of a product -/
def okT (n : Nat) (t : Int) : Bool := decide (1 ≤ t) && decide (t ≤ 4096) && foldsB t && decide ((FoldsForL t).length ≤ n) && decide (prodTo (FoldsForL t) (FoldsForL t).length = t) && allIn (FoldsForL t) 2 4 (FoldsForL t).length && !foldsB (7 * t) && allOk (fun i => decide ((FoldsForL t).getD (i + 1) 0 ≤ (FoldsForL t).getD i 0)) ((FoldsForL t).length - 1)
theorem okT_all : ∀ n : Fin 7, (leaves n.val 1).all (okT n.val) = true := by decide +kernel
theorem cf_pos (p : Nat) (x : Nat) (hp : 1 ≤ p) (hx : x = 2 ∨ x = 3 ∨ x = 4) (h : 1 ≤ cf p) : 1 ≤ cf (p * x) := by
  rw [cf, dif_neg (by rcases hx with rfl | rfl | rfl <;> omega)]
  rcases hx with rfl | rfl | rfl
  · rw [if_pos (by omega), show p * 2 / 2 = p by omega]; omega
  · have e : p * 3 / 3 = p := by omega
    rw [if_pos (show p * 3 % 3 = 0 by omega), e]; omega
  · have e : p * 4 / 4 = p := by omega
    rw [if_pos (show p * 4 % 4 = 0 by omega), e]; omega
theorem cf_prod (xs : List Int) : ∀ k : Nat, (∀ i, i < k → inAt xs 2 4 i = true) → 1 ≤ cf (prodTo xs k).toNat
  | 0, _ => by rw [show (prodTo xs 0).toNat = 1 from rfl, cf]; simp
  | k + 1, h => by
    have ih := cf_prod xs k fun i hi => h i (by omega)
    have h0 := prodTo_pos xs k fun i hi => h i (by omega)
    have h2 := inB_tt (h k (by omega))
    obtain ⟨p, hp⟩ : ∃ p : Nat, prodTo xs k = p := ⟨(prodTo xs k).toNat, by omega⟩
    obtain ⟨x, hx⟩ : ∃ x : Nat, xs.getD k 0 = x := ⟨(xs.getD k 0).toNat, by omega⟩
    rw [prodTo_succ, hp, hx, show ((p : Int) * (x : Int)).toNat = p * x by rw [← Int.natCast_mul]; rfl]
    rw [hp] at ih
    exact cf_pos p x (by omega) (by omega) ih
theorem cf1 : foldsV 1 = 1 := by unfold foldsV; rw [inB_t (by omega), if_pos rfl]; rw [show (1 : Int).toNat = 1 from rfl, cf]; simp
theorem cf_1 : cf 1 = 1 := by rw [cf]; simp
theorem cf_2 : cf 2 = 1 := by rw [cf]; simp [cf_1]
theorem cf_3 : cf 3 = 1 := by rw [cf]; simp [cf_1]
theorem cf_4 : cf 4 = 2 := by rw [cf]; simp [cf_1, cf_2]
theorem cf_6 : cf 6 = 2 := by rw [cf]; simp [cf_3, cf_2]
theorem cf_8 : foldsV 8 = 3 := by unfold foldsV; rw [inB_t (by omega), if_pos rfl, show (8 : Int).toNat = 8 from rfl, cf]; simp [cf_4, cf_2]
theorem cf_12 : foldsV 12 = 5 := by unfold foldsV; rw [inB_t (by omega), if_pos rfl, show (12 : Int).toNat = 12 from rfl, cf]; simp [cf_6, cf_4, cf_3]
theorem cf_7 : foldsV 7 = 0 := by unfold foldsV; rw [inB_t (by omega), if_pos rfl, show (7 : Int).toNat = 7 from rfl, cf]; simp
theorem layers_ok {n : Nat} {xs : List Int} (hn : n ≤ 8) (h : ∀ i, i < n → inAt xs 2 4 i = true) (hp : prodTo xs n ≤ 10000) : layersV n xs = prodTo xs n := by
  unfold layersV
  rw [allIn_t h, decide_eq_true hn, decide_eq_true hp]
  rfl
theorem prod_snoc (xs : List Int) (v : Int) : ∀ k : Nat, k ≤ xs.length → prodTo (xs ++ [v]) k = prodTo xs k
  | 0, _ => rfl
  | k + 1, h => by
    rw [prodTo_succ, prodTo_succ, prod_snoc xs v k (by omega)]
    congr 1
    rw [List.getD_eq_getElem?_getD, List.getElem?_append_left (by omega), ← List.getD_eq_getElem?_getD]
theorem snoc_last (xs : List Int) (v : Int) (n : Nat) (h : xs.length = n) : (xs ++ [v]).getD n 0 = v := by
  subst h
  rw [List.getD_eq_getElem?_getD, List.getElem?_append_right (Nat.le_refl _)]
  simp
abbrev PF (xs : List Int) (n : Nat) : Prop := ∀ i, i < n → (fun v : Int => 2 ≤ v ∧ v ≤ 4) (xs.getD i 0)
theorem pf_in {xs : List Int} {n : Nat} (h : PF xs n) : ∀ i, i < n → inAt xs 2 4 i = true := fun i hi => inB_t (h i hi)
theorem prod_at {xs : List Int} {n : Nat} (hn : n ≤ 6) (h : PF xs n) : prodTo xs n ∈ leaves n 1 := by
  have := prod_leaves xs n 0 (by rw [Nat.zero_add]; exact pf_in h)
  rwa [Nat.zero_add] at this
theorem folds_law {n : Nat} {xs : List Int} (hn : n ≤ 6) (hx : PF xs n) (hl : xs.length = n) :
    ∃ (N C : Int) (S : List Int) (m : Nat), layersV n xs = N ∧ (1 ≤ N ∧ N ≤ 4096) ∧ FoldsForL N = S ∧ foldsB N = true ∧ S.length = m ∧ m ≤ n ∧ layersV m S = N ∧ (∀ k, k + 1 < m → S.getD (k + 1) 0 ≤ S.getD k 0) ∧ foldsV N = C ∧ (1 ≤ C ∧ C ≤ 100000000) ∧ foldsB (7 * N) = false ∧ (n ≤ 5 → layersV (n + 1) (xs ++ [3]) = 3 * N) := by
  have h1 := okT_all ⟨n, by omega⟩
  simp only [List.all_eq_true] at h1
  have h2 := h1 _ (prod_at hn hx)
  unfold okT at h2
  simp only [Bool.and_eq_true, decide_eq_true_eq, Bool.not_eq_true'] at h2
  obtain ⟨⟨⟨⟨⟨⟨⟨a1, a2⟩, a3⟩, a4⟩, a5⟩, a6⟩, a7⟩, a8⟩ := h2
  refine ⟨prodTo xs n, foldsV (prodTo xs n), _, _, layers_ok (by omega) (pf_in hx) (by omega), ⟨a1, a2⟩, rfl, a3, rfl, a4, ?_, fun k hk => ?_, rfl, ?_, a7, fun h5 => ?_⟩
  · rw [layers_ok (by omega) (allOk_at _ _ a6) (by omega), a5]
  · simpa using allOk_at _ _ a8 k (by omega)
  · have c1 := cf_prod xs n (pf_in hx)
    have c2 := cf_le (prodTo xs n).toNat
    unfold foldsV
    rw [inB_t (by omega), if_pos rfl]
    have c3 : (prodTo xs n).toNat * (prodTo xs n).toNat ≤ 4096 * 4096 := Nat.mul_le_mul (by omega) (by omega)
    omega
  · have hp : prodTo (xs ++ [3]) (n + 1) = 3 * prodTo xs n := by rw [prodTo_succ, prod_snoc xs 3 n (by omega), snoc_last xs 3 n hl]; omega
    have hb := prodTo_le xs n (pf_in hx)
    have h4 : (4 : Int) ^ n ≤ 4 ^ 5 := by exact_mod_cast Nat.pow_le_pow_right (by decide) h5
    have e5 : (4 : Int) ^ 5 = 1024 := by decide
    rw [layers_ok (by omega) _ (by omega), hp]
    intro i hi
    unfold inAt
    by_cases e : i < n
    · rw [List.getD_eq_getElem?_getD, List.getElem?_append_left (by omega), ← List.getD_eq_getElem?_getD]
      exact pf_in hx i e
    · obtain rfl : i = n := by omega
      rw [snoc_last xs 3 i hl]; rfl
theorem close_law {w : Int} {k : Nat} {hs : List Int} (hw : 1 ≤ w ∧ w ≤ 256) (hk : k ≤ 4) (hx : PF hs k) :
    ∃ c m : Int, closeV w k = c ∧ layersV k hs = m ∧ (1 ≤ c ∧ c ≤ 4096) ∧ (1 ≤ m ∧ m ≤ 4096) ∧ max (c - w) (w - c) ≤ max (m - w) (w - m) := by
  have h1 := okT_all ⟨k, by omega⟩
  simp only [List.all_eq_true] at h1
  have hm := prod_at (by omega) hx
  have hb := cl_best w k 1
  have g1 := h1 _ hm
  have g2 := h1 _ hb.1
  unfold okT at g1 g2
  simp only [Bool.and_eq_true, decide_eq_true_eq] at g1 g2
  have g3 := hb.2 _ hm
  refine ⟨cl w k 1, prodTo hs k, ?_, layers_ok (by omega) (pf_in hx) (by omega), by omega, by omega, ?_⟩
  · unfold closeV; rw [inB_t (by omega), inB_t (by omega)]; rfl
  · unfold lexLe dist at g3; omega
theorem FoldsFor_c {N : Int} {S : List Int} {m : Nat} (eS : FoldsForL N = S) (eB : foldsB N = true) (em : S.length = m) (w : World) :
    Calls Try.prog 35 #[.int .i64 N] w (fun e w' => ∃ A c, e = .returned (.tuple #[.slice A m c, .bool true]) ∧ ReadsI w' A m S ∧ Below w.heap.size w w') := by
  refine (iFoldsFor N w).mono ?_
  rintro e w' ⟨A, c, rfl, hown, hb⟩
  rw [eS, em] at hown
  exact ⟨A, c, by rw [eS, em, eB], reads_own_i hown, hb⟩
theorem FoldsFor_no {N : Int} (eB : foldsB N = false) (w : World) :
    Calls Try.prog 35 #[.int .i64 N] w (fun e w' => ∃ v, e = .returned (.tuple #[v, .bool false]) ∧ Below w.heap.size w w') := by
  refine (iFoldsFor N w).mono ?_
  rintro e w' ⟨A, c, rfl, hown, hb⟩
  exact ⟨_, by rw [eB], hb⟩
theorem thick_law {n : Nat} {xs : List Int} {N r : Int} (e : layersV n xs = N) (hN : 1 ≤ N) (hr : 1 ≤ r ∧ r ≤ 100000) : thickV n xs r = r / N := by
  unfold thickV
  rw [e, if_neg (by rw [inB_t hr]; simp; omega)]
end Go.Proofs.Ytgjbbidcpmglbaa
