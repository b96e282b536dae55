/- Flours in the order of their strength: what is taken. -/
import Derived.Test.YtmkfnhgaiheckaaSrt
import Derived.Test.YtmkfnhgaiheckaaSortI
import Derived.Test.YtmkfnhgaiheckaaFst
import Derived.Test.YtmkfnhgaiheckaaC27
import Derived.Test.YtmkfnhgaiheckaaIntI
import Derived.Test.YtmkfnhgaiheckaaOwnC
namespace Go.Proofs.Ytmkfnhgaiheckaa
open Go.ChangeShapes Go.WideShapes Go.ChangeAt Go.RowKit
set_option linter.unusedVariables false
set_option linter.unusedSimpArgs false
set_option maxHeartbeats 2000000

def ltI (p q : Int) : Bool := decide (p < q)
def sI (xs : List FlourR) (i : Nat) : Int := (xs.getD i z27).f0
def kI (xs : List FlourR) (i : Nat) : Int := (xs.getD i z27).f2
def hiI (xs : List FlourR) (i : Nat) : Int := - sI xs i
def apV (xs : List FlourR) : Int → Int → Int := fun x y => cmpV (hiI xs x.toNat) (hiI xs y.toNat)
theorem ap_lt (xs : List FlourR) (x y : Int) : ltOf (apV xs) x y = ltI (hiI xs x.toNat) (hiI xs y.toNat) := by
  unfold ltOf apV cmpV ltI
  generalize hiI xs x.toNat = p
  generalize hiI xs y.toNat = q
  by_cases h : p < q
  · simp [h]
  · by_cases k : q < p
    · simp only [h, k, if_true, if_false]; rfl
    · simp only [h, k, if_false]; rfl
/-- the order -/
def apS (xs : List FlourR) (n : Nat) : Nat → Int := srtF (ltOf (apV xs)) n
def apN (xs : List FlourR) (n u : Nat) : Nat := (apS xs n u).toNat
theorem apN_eq {xs : List FlourR} {n u : Nat} (h : u < n) : apS xs n u = apN xs n u := by
  have := srtF_in (ltOf (apV xs)) n u h
  unfold apN apS; omega
theorem apN_in {xs : List FlourR} {n u : Nat} (h : u < n) : apN xs n u < n := by
  have := srtF_in (ltOf (apV xs)) n u h
  unfold apN apS; omega
/-- x stands ahead of y -/
def bef (xs : List FlourR) (x y : Nat) : Prop := hiI xs x < hiI xs y ∨ (hiI xs x = hiI xs y ∧ x < y)
theorem psn_hi_all (xs : List FlourR) (n : Nat) (S : Nat → Int) : ∀ j, ∀ t, psn (ltOf (apV xs)) n S j ≤ t → t < j → hiI xs n < hiI xs (S t).toNat := by
  intro j
  induction j with
  | zero => intro t _ h; omega
  | succ j ih =>
    intro t h1 h2
    rw [psn] at h1
    split at h1
    · rename_i hl
      rcases Nat.lt_or_ge t j with h3 | h3
      · exact ih t h1 h3
      · obtain rfl : t = j := by omega
        rw [ap_lt, Int.toNat_natCast] at hl
        simpa [ltI] using hl
    · omega
theorem psn_lo_at (xs : List FlourR) (n : Nat) (S : Nat → Int) : ∀ j, 0 < psn (ltOf (apV xs)) n S j → hiI xs (S (psn (ltOf (apV xs)) n S j - 1)).toNat ≤ hiI xs n := by
  intro j
  induction j with
  | zero => intro h; simp [psn] at h
  | succ j ih =>
    intro h
    rw [psn] at h ⊢
    split
    · rename_i hl; rw [if_pos hl] at h; exact ih h
    · rename_i hl
      rw [ap_lt, Int.toNat_natCast] at hl
      simp [ltI] at hl
      simpa using hl
theorem ap_sorted (xs : List FlourR) (n : Nat) : ∀ u v, u < v → v < n → bef xs (apN xs n u) (apN xs n v) := by
  induction n with
  | zero => intro u v _ h; omega
  | succ n ih =>
    have hS : ∀ u, u < n → (srtF (ltOf (apV xs)) n u).toNat = apN xs n u := fun u _ => rfl
    have hp := psn_le (ltOf (apV xs)) n (srtF (ltOf (apV xs)) n) n
    have hh := psn_hi_all xs n (srtF (ltOf (apV xs)) n) n
    have hl := psn_lo_at xs n (srtF (ltOf (apV xs)) n) n
    have hN : ∀ u, apN xs (n + 1) u = (insAt (srtF (ltOf (apV xs)) n) n (psn (ltOf (apV xs)) n (srtF (ltOf (apV xs)) n) n) u).toNat := fun u => rfl
    generalize psn (ltOf (apV xs)) n (srtF (ltOf (apV xs)) n) n = p at *
    have hlo : ∀ t, t < p → bef xs (apN xs n t) n := by
      intro t ht
      have h1 := hl (by omega)
      rw [hS (p - 1) (by omega)] at h1
      have h2 : apN xs n t < n := apN_in (by omega)
      rcases Nat.lt_or_ge t (p - 1) with h3 | h3
      · rcases ih t (p - 1) h3 (by omega) with h4 | ⟨h4, _⟩
        · exact .inl (by omega)
        · rcases Int.lt_or_eq_of_le h1 with h5 | h5
          · exact .inl (by omega)
          · exact .inr ⟨by omega, h2⟩
      · obtain rfl : t = p - 1 := by omega
        rcases Int.lt_or_eq_of_le h1 with h5 | h5
        · exact .inl h5
        · exact .inr ⟨h5, h2⟩
    have hhi : ∀ t, p ≤ t → t < n → bef xs n (apN xs n t) := fun t h1 h2 => .inl (hh t h1 h2)
    intro u v huv hv
    rw [hN, hN]
    rcases Nat.lt_trichotomy u p with h1 | h1 | h1
    · rw [insAt_lo h1, hS u (by omega)]
      rcases Nat.lt_trichotomy v p with h2 | h2 | h2
      · rw [insAt_lo h2, hS v (by omega)]; exact ih u v huv (by omega)
      · subst h2; rw [insAt_at, Int.toNat_natCast]; exact hlo u h1
      · rw [insAt_hi h2, hS (v - 1) (by omega)]; exact ih u (v - 1) (by omega) (by omega)
    · subst h1
      rw [insAt_at, Int.toNat_natCast, insAt_hi huv, hS (v - 1) (by omega)]
      exact hhi (v - 1) (by omega) (by omega)
    · rw [insAt_hi h1, insAt_hi (by omega), hS (u - 1) (by omega), hS (v - 1) (by omega)]
      exact ih (u - 1) (v - 1) (by omega) (by omega)
theorem ap_surj (xs : List FlourR) (n : Nat) : ∀ k, k < n → ∃ u, u < n ∧ apN xs n u = k := by
  induction n with
  | zero => intro k h; omega
  | succ n ih =>
    have hp := psn_le (ltOf (apV xs)) n (srtF (ltOf (apV xs)) n) n
    have hN : ∀ u, apN xs (n + 1) u = (insAt (srtF (ltOf (apV xs)) n) n (psn (ltOf (apV xs)) n (srtF (ltOf (apV xs)) n) n) u).toNat := fun u => rfl
    generalize psn (ltOf (apV xs)) n (srtF (ltOf (apV xs)) n) n = p at *
    intro k hk
    by_cases e : k = n
    · subst e; exact ⟨p, by omega, by rw [hN, insAt_at, Int.toNat_natCast]⟩
    · obtain ⟨u, hu, hu2⟩ := ih k (by omega)
      rcases Nat.lt_or_ge u p with h | h
      · exact ⟨u, by omega, by rw [hN, insAt_lo h]; exact hu2⟩
      · exact ⟨u + 1, by omega, by rw [hN, insAt_hi (by omega)]; exact hu2⟩
/-- block g holds the numbers f -/
def Nums (w : World) (g n : Nat) (f : Nat → Int) : Prop := ∃ cur : Array Value, Blk w g 3 cur ∧ cur.size = n ∧ ∀ t : Nat, t < n → cur[t]? = some (.int .i64 (f t))
def updI (f : Nat → Int) (i : Nat) (v : Int) (t : Nat) : Int := if t = i then v else f t
theorem Nums.set_ {w : World} {g n : Nat} {f : Nat → Int} (h : Nums w g n f) (i : Nat) (v : Int) : Nums (w.setCell ⟨g, i, none⟩ (.int .i64 v)) g n (updI f i v) := by
  obtain ⟨cur, hb, hs, hc⟩ := h
  refine ⟨_, hb.set_ i _, by simp; exact hs, fun u hu => ?_⟩
  rw [Array.getElem?_setIfInBounds, updI]
  by_cases e : i = u
  · subst e
    rw [if_pos rfl, if_pos (by omega), if_pos rfl]
  · rw [if_neg e, hc u hu, if_neg (by omega)]
theorem Nums.congr {w : World} {g n : Nat} {f f' : Nat → Int} (h : Nums w g n f) (he : ∀ t, t < n → f t = f' t) : Nums w g n f' := by
  obtain ⟨cur, hb, hs, hc⟩ := h
  exact ⟨cur, hb, hs, fun t ht => by rw [hc t ht, he t ht]⟩
theorem Nums.cell {w : World} {g n : Nat} {f : Nat → Int} (h : Nums w g n f) (t : Nat) (ht : t < n) : w.cell? ⟨g, t, none⟩ = some (.int .i64 (f t)) := by
  obtain ⟨cur, hb, hs, hc⟩ := h
  rw [hb.cell]; exact hc t ht
theorem Nums.free {w : World} {g n : Nat} {f : Nat → Int} (h : Nums w g n f) (t : Nat) : w.frozen? ⟨g, t, none⟩ = false := by
  obtain ⟨cur, hb, _⟩ := h
  exact hb.frozen t
theorem Nums.lt {w : World} {g n : Nat} {f : Nat → Int} (h : Nums w g n f) : g < w.heap.size := by
  obtain ⟨cur, hb, _⟩ := h
  exact hb.lt
theorem Nums.step {w w' : World} {g n : Nat} {f : Nat → Int} (h : Nums w g n f) (hb : Below w.heap.size w w') : Nums w' g n f := by
  obtain ⟨cur, hk, r⟩ := h
  exact ⟨cur, hk.step hb, r⟩
theorem Nums.drew {w : World} {g n : Nat} {f : Nat → Int} (h : Nums w g n f) : Nums w.drew g n f := h.step (Below.refl _ w).drew
theorem nums_made {w w1 : World} {n : Nat} (hown : w1.ownsRow w.heap.size 3 1 (.slice (some ⟨w.heap.size, 0, none⟩) n n) n (List.replicate n (Value.int .i64 0))) : Nums w1 w.heap.size n (fun _ => 0) := by
  rcases hown.2 with ⟨h, _⟩ | ⟨g, cap, cur, h, hg, hh, hnc, hcp, hcs, htake⟩
  · cases h
  · injection h with h1 h2 h3
    injection h1 with h1
    injection h1 with h1
    subst h1 h3
    refine ⟨cur, hh, by simpa using hcs, fun t ht => ?_⟩
    have h5 := congrArg (·[t]?) htake
    simp [ht] at h5
    simpa using h5
theorem ReadsI.only {w w' : World} {B : Option Addr} {n g : Nat} {xs : List Int} (h : ReadsI w B n xs) (hb : w.grownBy w' (some g)) (hne : ∀ a, B = some a → a.block ≠ g) : ReadsI w' B n xs := by
  refine ⟨h.1, fun k hk => ?_⟩
  obtain ⟨a, ha, hc⟩ := h.2 k hk
  refine ⟨a, ha, ?_⟩
  have hl := h.lt a ha (by omega)
  have hbk : (a.add k).block = a.block := block_of_add a k
  unfold World.cell? at hc ⊢
  rw [hbk] at hc ⊢
  rw [hb.block a.block hl (fun e => by injection e with e; exact hne a ha e)]
  exact hc
theorem ReadsI.setc {w : World} {B : Option Addr} {n g i : Nat} {v : Value} {xs : List Int} (h : ReadsI w B n xs) (hne : ∀ a, B = some a → a.block ≠ g) : ReadsI (w.setCell ⟨g, i, none⟩ v) B n xs := h.only (only_set ⟨g, i, none⟩ v) hne
theorem own_blk_ge {w : World} {Bs m c : Nat} {B : Option Addr} {xs : List Value} (ho : w.ownsRow Bs 3 1 (.slice B m c) m xs) : ∀ a, B = some a → Bs ≤ a.block := by
  intro a ha
  rcases ho.2 with ⟨h, _⟩ | ⟨g2, cap, cur2, h, hg, hh, _⟩
  · injection h with h1
    rw [h1] at ha; cases ha
  · injection h with h1
    rw [ha] at h1
    injection h1 with h1
    rw [h1]; exact hg
theorem Nums.reads {w : World} {g n : Nat} {f : Nat → Int} (h : Nums w g n f) : ReadsI w (some ⟨g, 0, none⟩) n ((List.range n).map f) := by
  refine ⟨by simp, fun k hk => ⟨_, rfl, ?_⟩⟩
  rw [Addr.add_lit, Nat.zero_add, h.cell k hk]
  simp [List.getD_eq_getElem?_getD, hk]
section
variable (xs : List FlourR) (n : Nat) (tot : Int)
def gT : Nat → Int
  | 0 => tot
  | j + 1 => gT j - min (gT j) (kI xs (apN xs n j))
def gK : Nat → (Nat → Int)
  | 0 => fun _ => 0
  | j + 1 => updI (gK j) (apN xs n j) (min (gT xs n tot j) (kI xs (apN xs n j)))
/-- the best of the first k that has not been taken -/
def bst (K : Nat → Int) : Nat → Int
  | 0 => -1
  | k + 1 => if K k = 0 ∧ 0 < kI xs k ∧ (bst K k < 0 ∨ sI xs (bst K k).toNat < sI xs k) then (k : Int) else bst K k
def sT : Nat → Int × (Nat → Int)
  | 0 => (tot, fun _ => 0)
  | r + 1 => if 0 ≤ bst xs (sT r).2 n ∧ 0 < (sT r).1 then ((sT r).1 - min (sT r).1 (kI xs (bst xs (sT r).2 n).toNat), updI (sT r).2 (bst xs (sT r).2 n).toNat (min (sT r).1 (kI xs (bst xs (sT r).2 n).toNat))) else sT r
end
section
variable {xs : List FlourR} {n : Nat} {tot : Int}
def Cand (xs : List FlourR) (K : Nat → Int) (i : Nat) : Prop := K i = 0 ∧ 0 < kI xs i
theorem bst_is (K : Nat → Int) (m : Nat) : (bst xs K m = -1 ∧ ∀ i, i < m → ¬ Cand xs K i) ∨ ∃ b : Nat, bst xs K m = b ∧ b < m ∧ Cand xs K b ∧ ∀ i, i < m → Cand xs K i → sI xs i < sI xs b ∨ (sI xs i = sI xs b ∧ b ≤ i) := by
  induction m with
  | zero => exact .inl ⟨rfl, fun i hi => absurd hi (Nat.not_lt_zero _)⟩
  | succ m ih =>
    rw [bst]
    rcases ih with ⟨h1, h2⟩ | ⟨b, h1, h2, h3, h4⟩
    · by_cases hc : Cand xs K m
      · rw [if_pos ⟨hc.1, hc.2, .inl (by omega)⟩]
        exact .inr ⟨m, rfl, by omega, hc, fun i hi hci => by
          by_cases e : i = m
          · subst e; exact .inr ⟨rfl, Nat.le_refl _⟩
          · exact absurd hci (h2 i (by omega))⟩
      · rw [if_neg (fun h => hc ⟨h.1, h.2.1⟩)]
        exact .inl ⟨h1, fun i hi => by
          by_cases e : i = m
          · subst e; exact hc
          · exact h2 i (by omega)⟩
    · by_cases hc : Cand xs K m ∧ sI xs b < sI xs m
      · rw [if_pos ⟨hc.1.1, hc.1.2, .inr (by rw [h1]; simpa using hc.2)⟩]
        refine .inr ⟨m, rfl, by omega, hc.1, fun i hi hci => ?_⟩
        by_cases e : i = m
        · subst e; exact .inr ⟨rfl, Nat.le_refl _⟩
        · have := h4 i (by omega) hci
          have := hc.2
          omega
      · rw [if_neg (fun h => hc ⟨⟨h.1, h.2.1⟩, by
          rcases h.2.2 with h5 | h5
          · omega
          · rw [h1] at h5; simpa using h5⟩)]
        refine .inr ⟨b, h1, by omega, h3, fun i hi hci => ?_⟩
        by_cases e : i = m
        · subst e
          have : ¬ sI xs b < sI xs i := fun h => hc ⟨hci, h⟩
          omega
        · exact h4 i (by omega) hci
theorem gT_nn (hk : ∀ i, i < n → 0 ≤ kI xs i) (ht : 0 ≤ tot) : ∀ j, j ≤ n → 0 ≤ gT xs n tot j := by
  intro j
  induction j with
  | zero => intro _; exact ht
  | succ j ih =>
    intro hj
    have := ih (by omega)
    rw [gT]; omega
theorem gT_le (hk : ∀ i, i < n → 0 ≤ kI xs i) (ht : 0 ≤ tot) : ∀ d j, j + d ≤ n → gT xs n tot (j + d) ≤ gT xs n tot j := by
  intro d
  induction d with
  | zero => intro j _; exact Int.le_refl _
  | succ d ih =>
    intro j hj
    have h1 := ih j (by omega)
    have h2 := gT_nn hk ht (j + d) (by omega)
    have h3 := hk (apN xs n (j + d)) (apN_in (by omega))
    rw [show j + (d + 1) = j + d + 1 by omega, gT]
    omega
theorem ap_inj {u v : Nat} (hu : u < n) (hv : v < n) (h : apN xs n u = apN xs n v) : u = v := by
  rcases Nat.lt_trichotomy u v with h1 | h1 | h1
  · have := ap_sorted xs n u v h1 hv
    rw [h] at this
    unfold bef at this
    omega
  · exact h1
  · have := ap_sorted xs n v u h1 hu
    rw [h] at this
    unfold bef at this
    omega
theorem gK_hi : ∀ j u, j ≤ u → u < n → gK xs n tot j (apN xs n u) = 0 := by
  intro j
  induction j with
  | zero => intro u _ _; rfl
  | succ j ih =>
    intro u hj hu
    rw [gK, updI, if_neg (fun h => by have := ap_inj (by omega) (by omega) h; omega)]
    exact ih u (by omega) hu
theorem gK_lo : ∀ j u, u < j → j ≤ n → gK xs n tot j (apN xs n u) = min (gT xs n tot u) (kI xs (apN xs n u)) := by
  intro j
  induction j with
  | zero => intro u hu; omega
  | succ j ih =>
    intro u hu hj
    rw [gK, updI]
    by_cases e : u = j
    · subst e; rw [if_pos rfl]
    · rw [if_neg (fun h => e (ap_inj (by omega) (by omega) h))]
      exact ih u (by omega) (by omega)
theorem g_stay (hk : ∀ i, i < n → 0 ≤ kI xs i) {j : Nat} (ht : 0 ≤ gT xs n tot j) : ∀ d, j + d ≤ n → (∀ u, j ≤ u → u < j + d → kI xs (apN xs n u) = 0 ∨ gT xs n tot j = 0) → gT xs n tot (j + d) = gT xs n tot j ∧ ∀ i, i < n → gK xs n tot (j + d) i = gK xs n tot j i := by
  intro d
  induction d with
  | zero => intro _ _; exact ⟨rfl, fun i _ => rfl⟩
  | succ d ih =>
    intro hj h
    obtain ⟨h1, h2⟩ := ih (by omega) fun u h3 h4 => h u h3 (by omega)
    have h5 := h (j + d) (by omega) (by omega)
    have h6 := hk (apN xs n (j + d)) (apN_in (by omega))
    have hm : min (gT xs n tot (j + d)) (kI xs (apN xs n (j + d))) = 0 := by rw [h1]; omega
    rw [show j + (d + 1) = j + d + 1 by omega]
    refine ⟨by rw [gT, hm, h1]; omega, fun i hi => ?_⟩
    rw [gK, hm, updI]
    by_cases e : i = apN xs n (j + d)
    · rw [if_pos e, e]
      exact (gK_hi j (j + d) (by omega) (by omega)).symm
    · rw [if_neg e]; exact h2 i hi
theorem bst_congr {K K' : Nat → Int} (m : Nat) (h : ∀ i, i < m → K i = K' i) : bst xs K m = bst xs K' m := by
  induction m with
  | zero => rfl
  | succ m ih => rw [bst, bst, ih fun i hi => h i (by omega), h m (by omega)]
/-- the model's rounds go along the order -/
theorem s_inv (hk : ∀ i, i < n → 0 ≤ kI xs i) (ht : 0 ≤ tot) : ∀ r, r ≤ n → ∃ j, j ≤ n ∧ (sT xs n tot r).1 = gT xs n tot j ∧ (∀ i, i < n → (sT xs n tot r).2 i = gK xs n tot j i) ∧ (r ≤ j ∨ gT xs n tot j = 0) := by
  intro r
  induction r with
  | zero => intro _; exact ⟨0, Nat.zero_le _, rfl, fun i _ => rfl, .inl (Nat.le_refl _)⟩
  | succ r ih =>
    intro hr
    obtain ⟨j, hj, h1, h2, h3⟩ := ih (by omega)
    have hb := bst_congr (xs := xs) n h2
    have hnn := gT_nn hk ht j hj
    by_cases hT : gT xs n tot j = 0
    · refine ⟨j, hj, ?_, ?_, .inr hT⟩
      · rw [sT, if_neg (by rw [h1, hT]; omega)]; exact h1
      · rw [sT, if_neg (by rw [h1, hT]; omega)]; exact h2
    have hrj : r ≤ j := by omega
    -- who is left
    have hcand : ∀ u, u < n → (Cand xs (gK xs n tot j) (apN xs n u) ↔ j ≤ u ∧ 0 < kI xs (apN xs n u)) := by
      intro u hu
      constructor
      · rintro ⟨c1, c2⟩
        refine ⟨?_, c2⟩
        rcases Nat.lt_or_ge u j with hlt | hge
        · rw [gK_lo j u hlt hj] at c1
          have := gT_le hk ht (j - u) u (by omega)
          rw [show u + (j - u) = j by omega] at this
          omega
        · exact hge
      · rintro ⟨c1, c2⟩
        exact ⟨gK_hi j u c1 hu, c2⟩
    rcases bst_is (xs := xs) (gK xs n tot j) n with ⟨hm, hno⟩ | ⟨b, hm, hbn, hbc, hbest⟩
    · have hz : ∀ u, j ≤ u → u < n → kI xs (apN xs n u) = 0 ∨ gT xs n tot j = 0 := fun u hu hun => by
        have := hno (apN xs n u) (apN_in hun)
        rw [hcand u hun] at this
        have := hk (apN xs n u) (apN_in hun)
        omega
      have hs := g_stay hk hnn (n - j) (by omega) fun u h4 h5 => hz u h4 (by omega)
      rw [show j + (n - j) = n by omega] at hs
      have hneg : ¬ (0 ≤ bst xs (sT xs n tot r).2 n ∧ 0 < (sT xs n tot r).1) := by rw [hb, hm]; omega
      refine ⟨n, Nat.le_refl _, ?_, fun i hi => ?_, .inl hr⟩
      · rw [sT, if_neg hneg, h1, hs.1]
      · rw [sT, if_neg hneg, h2 i hi, hs.2 i hi]
    · obtain ⟨q, hq, rfl⟩ := ap_surj xs n b hbn
      obtain ⟨hjq, hkq⟩ := (hcand q hq).1 hbc
      have hz : ∀ u, j ≤ u → u < j + (q - j) → kI xs (apN xs n u) = 0 ∨ gT xs n tot j = 0 := fun u hu huq => by
        left
        have h0 := hk (apN xs n u) (apN_in (by omega))
        by_cases hp : 0 < kI xs (apN xs n u)
        · exfalso
          have h4 := hbest (apN xs n u) (apN_in (by omega)) ((hcand u (by omega)).2 ⟨hu, hp⟩)
          have h5 := ap_sorted xs n u q (by omega) hq
          unfold bef hiI at h5
          omega
        · omega
      have hs := g_stay hk hnn (q - j) (by omega) hz
      rw [show j + (q - j) = q by omega] at hs
      have hpos : 0 ≤ bst xs (sT xs n tot r).2 n ∧ 0 < (sT xs n tot r).1 := by rw [hb, hm, h1]; omega
      refine ⟨q + 1, by omega, ?_, fun i hi => ?_, .inl (by omega)⟩
      · rw [sT, if_pos hpos, hb, hm, h1, gT, hs.1]
        simp only [Int.toNat_natCast]
      · rw [sT, if_pos hpos, hb, hm, h1, gK, hs.1]
        simp only [Int.toNat_natCast, updI]
        split
        · rfl
        · rw [h2 i hi, hs.2 i hi]
theorem s_end (hk : ∀ i, i < n → 0 ≤ kI xs i) (ht : 0 ≤ tot) : (sT xs n tot n).1 = gT xs n tot n ∧ ∀ i, i < n → (sT xs n tot n).2 i = gK xs n tot n i := by
  obtain ⟨j, hj, h1, h2, h3⟩ := s_inv hk ht n (Nat.le_refl _)
  by_cases e : j = n
  · subst e; exact ⟨h1, h2⟩
  · have hT : gT xs n tot j = 0 := by omega
    have hs := g_stay hk (by omega) (n - j) (by omega) fun u _ _ => .inr hT
    rw [show j + (n - j) = n by omega] at hs
    exact ⟨by rw [h1, hs.1], fun i hi => by rw [h2 i hi, hs.2 i hi]⟩
end
def stgV (n : Nat) (xs : List FlourR) (tot : Int) : Int := if floursB n xs && inB tot 1 500 then (if 0 < gT xs n tot n then -1 else strengthV n xs n ((List.range n).map (gK xs n tot n))) else -1
end Go.Proofs.Ytmkfnhgaiheckaa
