/- Chapter 17: Reached: the values. -/
import Derived.Test.YtgjbbidcpmglbaaE17
import Derived.Test.YtgjbbidcpmglbaaIdxM
namespace Go.Proofs.Ytgjbbidcpmglbaa
open Go.ChangeShapes Go.WideShapes Go.ChangeAt Go.RowKit
set_option linter.unusedVariables false
set_option linter.unusedSimpArgs false
set_option maxHeartbeats 2000000

abbrev St17 : Type := (Int → Bool) × (Int → Bool)
def insP (p : Int → Bool) (k : Int) : Int → Bool := fun x => decide (x = k) || p x
theorem insP_t {p : Int → Bool} {k x : Int} (h : p x = true) : insP p k x = true := by simp [insP, h]
theorem insP_s {p : Int → Bool} {k : Int} : insP p k k = true := by simp [insP]
theorem insP_o {p : Int → Bool} {k x : Int} (h : x ≠ k) : insP p k x = p x := by simp [insP, h]
def rk (xs : List UseR) (s : St17) (k : Nat) : St17 := if s.1 (xs.getD k z17).f0 || s.2 (xs.getD k z17).f1 then (insP s.1 (xs.getD k z17).f0, insP s.2 (xs.getD k z17).f1) else s
def rnd (xs : List UseR) (s : St17) : Nat → St17
  | 0 => s
  | k + 1 => rk xs (rnd xs s k) k
def rnds (n : Nat) (xs : List UseR) (s : St17) : Nat → St17
  | 0 => s
  | r + 1 => rnd xs (rnds n xs s r) n
def startP (n : Nat) (xs : List UseR) (a : Int) : St17 := (if 0 < (BreadsOfL n xs a).length then insP (fun _ => false) a else fun _ => false, fun _ => false)
def reP (n : Nat) (xs : List UseR) (a : Int) (l : Nat) : Bool := (rnds n xs (startP n xs a) 60).1 l
def ReachedL (n : Nat) (xs : List UseR) (a : Int) : List Int := if usesB n xs then idxTo (reP n xs a) 51 else []
theorem ReachedL_len (n : Nat) (xs : List UseR) (a : Int) : (ReachedL n xs a).length ≤ 51 := by
  unfold ReachedL; split
  · exact idxTo_len _ _
  · simp
/-- what is reached -/
inductive Rch (n : Nat) (xs : List UseR) (a : Int) : Int → Prop
  | start : (∃ k, k < n ∧ (xs.getD k z17).f0 = a) → Rch n xs a a
  | step {l l' b : Int} : Rch n xs a l → hasU xs l b n = true → hasU xs l' b n = true → Rch n xs a l'
theorem hasU_at {xs : List UseR} {n k : Nat} (hk : k < n) : hasU xs (xs.getD k z17).f0 (xs.getD k z17).f1 n = true := hasU_iff.2 ⟨k, hk, rfl, rfl⟩
theorem rk_cases (xs : List UseR) (s : St17) (k : Nat) : ((s.1 (xs.getD k z17).f0 || s.2 (xs.getD k z17).f1) = true ∧ rk xs s k = (insP s.1 (xs.getD k z17).f0, insP s.2 (xs.getD k z17).f1)) ∨ ((s.1 (xs.getD k z17).f0 || s.2 (xs.getD k z17).f1) = false ∧ rk xs s k = s) := by
  unfold rk
  cases h : s.1 (xs.getD k z17).f0 || s.2 (xs.getD k z17).f1
  · exact .inr ⟨rfl, by simp⟩
  · exact .inl ⟨rfl, by simp⟩
theorem rk_mono (xs : List UseR) (s : St17) (k : Nat) (x : Int) : (s.1 x = true → (rk xs s k).1 x = true) ∧ (s.2 x = true → (rk xs s k).2 x = true) := by
  rcases rk_cases xs s k with ⟨_, h⟩ | ⟨_, h⟩ <;> rw [h]
  · exact ⟨insP_t, insP_t⟩
  · exact ⟨id, id⟩
theorem rnd_mono (xs : List UseR) (s : St17) (x : Int) (a d : Nat) : ((rnd xs s a).1 x = true → (rnd xs s (a + d)).1 x = true) ∧ ((rnd xs s a).2 x = true → (rnd xs s (a + d)).2 x = true) := by
  induction d with
  | zero => exact ⟨id, id⟩
  | succ d ih =>
    have h := rk_mono xs (rnd xs s (a + d)) (a + d) x
    exact ⟨fun h1 => h.1 (ih.1 h1), fun h1 => h.2 (ih.2 h1)⟩
theorem rnd_mono0 (xs : List UseR) (s : St17) (x : Int) (n : Nat) : (s.1 x = true → (rnd xs s n).1 x = true) ∧ (s.2 x = true → (rnd xs s n).2 x = true) := by
  have h := rnd_mono xs s x 0 n
  rw [Nat.zero_add] at h
  exact h
def Sound (n : Nat) (xs : List UseR) (a : Int) (s : St17) : Prop := (∀ x, s.1 x = true → Rch n xs a x) ∧ ∀ b, s.2 b = true → ∃ l, Rch n xs a l ∧ hasU xs l b n = true
theorem Sound.rk {n : Nat} {xs : List UseR} {a : Int} {s : St17} (h : Sound n xs a s) {k : Nat} (hk : k < n) : Sound n xs a (rk xs s k) := by
  rcases rk_cases xs s k with ⟨hc, e⟩ | ⟨_, e⟩
  · rw [e]
    have hr : Rch n xs a (xs.getD k z17).f0 := by
      rw [Bool.or_eq_true] at hc
      rcases hc with hc | hc
      · exact h.1 _ hc
      · obtain ⟨l, h1, h2⟩ := h.2 _ hc
        exact .step h1 h2 (hasU_at hk)
    constructor
    · intro x hx
      simp only [insP, Bool.or_eq_true, decide_eq_true_eq] at hx
      rcases hx with rfl | hx
      · exact hr
      · exact h.1 x hx
    · intro b hb
      simp only [insP, Bool.or_eq_true, decide_eq_true_eq] at hb
      rcases hb with rfl | hb
      · exact ⟨_, hr, hasU_at hk⟩
      · exact h.2 b hb
  · rw [e]; exact h
theorem Sound.rnd {n : Nat} {xs : List UseR} {a : Int} {s : St17} (h : Sound n xs a s) : ∀ m, m ≤ n → Sound n xs a (rnd xs s m)
  | 0, _ => h
  | m + 1, hm => (Sound.rnd h m (by omega)).rk (by omega)
theorem Sound.rnds {n : Nat} {xs : List UseR} {a : Int} {s : St17} (h : Sound n xs a s) : ∀ r, Sound n xs a (rnds n xs s r)
  | 0 => h
  | r + 1 => (Sound.rnds h r).rnd n (Nat.le_refl _)
theorem named_iff {n : Nat} {xs : List UseR} (hB : usesB n xs = true) (a : Int) : 0 < (BreadsOfL n xs a).length ↔ ∃ k, k < n ∧ (xs.getD k z17).f0 = a := by
  rw [BreadsOfL, if_pos hB, List.length_pos_iff_exists_mem]
  constructor
  · rintro ⟨x, hx⟩
    have h := (mem_idxTo _ _ _).1 hx
    obtain ⟨k, hk, h1, _⟩ := hasU_iff.1 h.2.2
    exact ⟨k, hk, h1⟩
  · rintro ⟨k, hk, rfl⟩
    have h := hasU_at (xs := xs) hk
    have hr := hasU_in (uses_at hB).2 h
    exact ⟨(xs.getD k z17).f1, (mem_idxTo _ _ _).2 ⟨by omega, by omega, by
      simp only [brP]
      rw [Int.toNat_of_nonneg (by omega)]
      exact h⟩⟩
theorem Sound.start {n : Nat} {xs : List UseR} (hB : usesB n xs = true) (a : Int) : Sound n xs a (startP n xs a) := by
  constructor
  · intro x hx
    simp only [startP] at hx
    split at hx
    · rename_i h
      simp only [insP, Bool.or_false, decide_eq_true_eq] at hx
      subst hx
      exact .start ((named_iff hB x).1 h)
    · cases hx
  · intro b hb; cases hb
/-! it comes to rest -/
def cntP (p : Nat → Bool) : Nat → Nat
  | 0 => 0
  | k + 1 => cntP p k + if p k then 1 else 0
theorem cntP_le (p : Nat → Bool) (n : Nat) : cntP p n ≤ n := by
  induction n with
  | zero => exact Nat.le_refl _
  | succ n ih => rw [cntP]; split <;> omega
theorem cntP_mono {p q : Nat → Bool} (n : Nat) (h : ∀ i, i < n → p i = true → q i = true) : cntP p n ≤ cntP q n := by
  induction n with
  | zero => exact Nat.le_refl _
  | succ n ih =>
    have h1 := ih fun i hi => h i (by omega)
    have h2 := h n (by omega)
    rw [cntP, cntP]
    cases hp : p n
    · simp; omega
    · rw [h2 hp]; simp; omega
theorem cntP_lt {p q : Nat → Bool} (n k : Nat) (hk : k < n) (h : ∀ i, i < n → p i = true → q i = true) (h1 : p k = false) (h2 : q k = true) : cntP p n < cntP q n := by
  induction n with
  | zero => omega
  | succ n ih =>
    rw [cntP, cntP]
    by_cases e : k = n
    · subst e
      have := cntP_mono k fun i hi => h i (by omega)
      rw [h1, h2]; simp; omega
    · have h3 := ih (by omega) fun i hi => h i (by omega)
      have h4 := h n (by omega)
      cases hp : p n
      · simp; omega
      · rw [h4 hp]; simp; omega
theorem cntP_full {p : Nat → Bool} (n : Nat) (h : n ≤ cntP p n) : ∀ k, k < n → p k = true := by
  induction n with
  | zero => intro k hk; omega
  | succ n ih =>
    rw [cntP] at h
    have h1 := cntP_le p n
    intro k hk
    cases hp : p n
    · rw [hp] at h; simp at h; omega
    · by_cases e : k = n
      · subst e; exact hp
      · refine ih ?_ k (by omega)
        rw [hp] at h; simp at h; omega
def bothP (xs : List UseR) (s : St17) (k : Nat) : Bool := s.1 (xs.getD k z17).f0 && s.2 (xs.getD k z17).f1
def Closed (n : Nat) (xs : List UseR) (s : St17) : Prop := ∀ k, k < n → (s.1 (xs.getD k z17).f0 || s.2 (xs.getD k z17).f1) = true → bothP xs s k = true
theorem rnd_closed {n : Nat} {xs : List UseR} {s : St17} (h : Closed n xs s) : ∀ m, m ≤ n → (∀ x, (rnd xs s m).1 x = s.1 x) ∧ ∀ x, (rnd xs s m).2 x = s.2 x
  | 0, _ => ⟨fun _ => rfl, fun _ => rfl⟩
  | m + 1, hm => by
    obtain ⟨h1, h2⟩ := rnd_closed h m (by omega)
    show (∀ x, (rk xs (rnd xs s m) m).1 x = _) ∧ ∀ x, (rk xs (rnd xs s m) m).2 x = _
    rcases rk_cases xs (rnd xs s m) m with ⟨hc, e⟩ | ⟨_, e⟩
    · rw [e]
      rw [h1, h2] at hc
      have hb := h m (by omega) hc
      simp only [bothP, Bool.and_eq_true] at hb
      constructor
      · intro x
        simp only [insP, h1]
        by_cases ex : x = (xs.getD m z17).f0
        · rw [ex, hb.1]; simp
        · rw [decide_eq_false ex, Bool.false_or]
      · intro x
        simp only [insP, h2]
        by_cases ex : x = (xs.getD m z17).f1
        · rw [ex, hb.2]; simp
        · rw [decide_eq_false ex, Bool.false_or]
    · rw [e]; exact ⟨h1, h2⟩
theorem rnd_all {n : Nat} {xs : List UseR} {s : St17} {k : Nat} (hk : k < n) (h : (s.1 (xs.getD k z17).f0 || s.2 (xs.getD k z17).f1) = true) : bothP xs (rnd xs s n) k = true := by
  have hc : ((rnd xs s k).1 (xs.getD k z17).f0 || (rnd xs s k).2 (xs.getD k z17).f1) = true := by
    rw [Bool.or_eq_true] at h ⊢
    rcases h with h | h
    · exact .inl ((rnd_mono0 xs s _ k).1 h)
    · exact .inr ((rnd_mono0 xs s _ k).2 h)
  have e : rnd xs s (k + 1) = (insP (rnd xs s k).1 (xs.getD k z17).f0, insP (rnd xs s k).2 (xs.getD k z17).f1) := by
    show rk xs (rnd xs s k) k = _
    rcases rk_cases xs (rnd xs s k) k with ⟨_, e⟩ | ⟨hf, _⟩
    · exact e
    · rw [hc] at hf; cases hf
  have hm := rnd_mono xs s
  have h1 := (hm (xs.getD k z17).f0 (k + 1) (n - (k + 1))).1 (by rw [e]; exact insP_s)
  have h2 := (hm (xs.getD k z17).f1 (k + 1) (n - (k + 1))).2 (by rw [e]; exact insP_s)
  rw [show k + 1 + (n - (k + 1)) = n by omega] at h1 h2
  simp only [bothP, h1, h2, Bool.and_self]
theorem rest_at (n : Nat) (xs : List UseR) (s : St17) : ∀ r, Closed n xs (rnds n xs s r) ∨ r ≤ cntP (bothP xs (rnds n xs s r)) n
  | 0 => .inr (Nat.zero_le _)
  | r + 1 => by
    by_cases hc : Closed n xs (rnds n xs s r)
    · left
      obtain ⟨h1, h2⟩ := rnd_closed hc n (Nat.le_refl _)
      intro k hk
      show ((rnd xs (rnds n xs s r) n).1 _ || (rnd xs (rnds n xs s r) n).2 _) = true → bothP xs (rnd xs (rnds n xs s r) n) k = true
      simp only [bothP, h1, h2]
      exact hc k hk
    · right
      rcases rest_at n xs s r with h | h
      · exact absurd h hc
      · have : ∃ k, k < n ∧ ((rnds n xs s r).1 (xs.getD k z17).f0 || (rnds n xs s r).2 (xs.getD k z17).f1) = true ∧ bothP xs (rnds n xs s r) k = false := by
          apply Classical.byContradiction
          intro hn
          refine hc fun k hk hck => ?_
          cases hb : bothP xs (rnds n xs s r) k
          · exact absurd ⟨k, hk, hck, hb⟩ hn
          · rfl
        obtain ⟨k, hk, hck, hb⟩ := this
        have := cntP_lt (p := bothP xs (rnds n xs s r)) (q := bothP xs (rnd xs (rnds n xs s r) n)) n k hk (fun i hi hp => rnd_all hi (by simp only [bothP, Bool.and_eq_true] at hp; rw [hp.1]; rfl)) hb (rnd_all hk hck)
        show r + 1 ≤ cntP (bothP xs (rnd xs (rnds n xs s r) n)) n
        omega
theorem closed60 {n : Nat} {xs : List UseR} (hn : n ≤ 60) (s : St17) : Closed n xs (rnds n xs s 60) := by
  rcases rest_at n xs s 60 with h | h
  · exact h
  · have h1 := cntP_le (bothP xs (rnds n xs s 60)) n
    exact fun k hk _ => cntP_full n (by omega) k hk
theorem rnds_mono (n : Nat) (xs : List UseR) (s : St17) (x : Int) : ∀ r, s.1 x = true → (rnds n xs s r).1 x = true
  | 0, h => h
  | r + 1, h => (rnd_mono0 xs (rnds n xs s r) x n).1 (rnds_mono n xs s x r h)
theorem reach_iff {n : Nat} {xs : List UseR} (hB : usesB n xs = true) (a x : Int) : (rnds n xs (startP n xs a) 60).1 x = true ↔ Rch n xs a x := by
  constructor
  · exact ((Sound.start hB a).rnds 60).1 x
  · intro h
    have hc := closed60 (xs := xs) (uses_at hB).1 (startP n xs a)
    induction h with
    | start h =>
      refine rnds_mono n xs _ a 60 ?_
      simp only [startP, if_pos ((named_iff hB a).2 h)]
      exact insP_s
    | step _ h1 h2 ih =>
      obtain ⟨k, hk, rfl, rfl⟩ := hasU_iff.1 h1
      obtain ⟨k', hk', rfl, e⟩ := hasU_iff.1 h2
      have hb := hc k hk (by rw [ih]; rfl)
      simp only [bothP, Bool.and_eq_true] at hb
      have hb' := hc k' hk' (by rw [e, hb.2]; simp)
      simp only [bothP, Bool.and_eq_true] at hb'
      exact hb'.1
theorem Rch.range {n : Nat} {xs : List UseR} (hB : usesB n xs = true) {a x : Int} (h : Rch n xs a x) : 1 ≤ x ∧ x ≤ 50 := by
  cases h with
  | start h =>
    obtain ⟨k, hk, rfl⟩ := h
    have := use_in ((uses_at hB).2 k hk)
    omega
  | step _ h1 h2 =>
    have := hasU_in (uses_at hB).2 h2
    omega
end Go.Proofs.Ytgjbbidcpmglbaa
