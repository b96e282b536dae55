/- Chapter 11: ClosestLayers. -/
import Derived.Test.YtgjbbidcpmglbaaC11
import Derived.Test.YtgjbbidcpmglbaaQuiet
namespace Go.Proofs.Ytgjbbidcpmglbaa
open Go.ChangeShapes Go.WideShapes Go.ChangeAt Go.RowKit
set_option linter.unusedVariables false
set_option linter.unusedSimpArgs false

def kst (a b k : Nat) : Int := if k < a then 2 else if k < a + b then 3 else 4
def pk (a b : Nat) : Nat → Int
  | 0 => 1
  | k + 1 => pk a b k * kst a b k
theorem pk_bd (a b : Nat) : ∀ k, 1 ≤ pk a b k ∧ pk a b k ≤ 4 ^ k
  | 0 => by simp [pk]
  | k + 1 => by
      have h := pk_bd a b k
      have e : (4 : Int) ^ (k + 1) = 4 ^ k * 4 := Int.pow_succ _ _
      simp only [pk, kst]
      rw [e]
      split
      · omega
      · split <;> omega
theorem pk_le (a b k : Nat) (hk : k ≤ 6) : 1 ≤ pk a b k ∧ pk a b k ≤ 4096 := by
  have h := pk_bd a b k
  have : (4 : Int) ^ k ≤ 4 ^ 6 := by
    have h1 : 4 ^ k ≤ 4 ^ 6 := Nat.pow_le_pow_right (by decide) hk
    exact_mod_cast h1
  have e : (4 : Int) ^ 6 = 4096 := by decide
  omega
def row (f a : Nat) : Nat → List Int
  | 0 => []
  | b + 1 => row f a b ++ [pk a b f]
def pre (f : Nat) : Nat → List Int
  | 0 => []
  | a + 1 => pre f a ++ row f a (f - a + 1)
def leaves : Nat → Int → List Int
  | 0, l => [l]
  | f + 1, l => leaves f (l * 2) ++ leaves f (l * 3) ++ leaves f (l * 4)
def dist (w v : Int) : Int := max (v - w) (w - v)
def lexLe (w a b : Int) : Prop := dist w a < dist w b ∨ (dist w a = dist w b ∧ a ≤ b)
theorem lex_refl (w a : Int) : lexLe w a a := Or.inr ⟨rfl, Int.le_refl _⟩
theorem lex_trans {w a b c : Int} (h1 : lexLe w a b) (h2 : lexLe w b c) : lexLe w a c := by unfold lexLe at *; omega
theorem lex_anti {w a b : Int} (h1 : lexLe w a b) (h2 : lexLe w b a) : a = b := by unfold lexLe at *; omega
def upd (w x n : Int) : Int := if x < 0 ∨ dist w n < dist w x ∨ (dist w n = dist w x ∧ n < x) then n else x
def cloV (w a b : Int) : Int := if dist w a < dist w b then a else if dist w b < dist w a then b else min a b
def cl (w : Int) : Nat → Int → Int
  | 0, l => l
  | f + 1, l => cloV w (cloV w (cl w f (l * 2)) (cl w f (l * 3))) (cl w f (l * 4))
def Best (w : Int) (T : List Int) (v : Int) : Prop := v ∈ T ∧ ∀ t ∈ T, lexLe w v t
theorem clo_best {w : Int} {T1 T2 : List Int} {a b : Int} (h1 : Best w T1 a) (h2 : Best w T2 b) : Best w (T1 ++ T2) (cloV w a b) := by
  have hl : (cloV w a b = a ∨ cloV w a b = b) ∧ lexLe w (cloV w a b) a ∧ lexLe w (cloV w a b) b := by
    unfold cloV lexLe
    split
    · omega
    · split
      · omega
      · by_cases h : a ≤ b
        · rw [Int.min_eq_left h]; omega
        · rw [Int.min_eq_right (by omega)]; omega
  refine ⟨?_, fun t ht => ?_⟩
  · rcases hl.1 with h | h
    · rw [h]; exact List.mem_append_left _ h1.1
    · rw [h]; exact List.mem_append_right _ h2.1
  · rcases List.mem_append.1 ht with h | h
    · exact lex_trans hl.2.1 (h1.2 t h)
    · exact lex_trans hl.2.2 (h2.2 t h)
theorem cl_best (w : Int) : ∀ (f : Nat) (l : Int), Best w (leaves f l) (cl w f l)
  | 0, l => ⟨by simp [leaves, cl], fun t ht => by simp [leaves] at ht; rw [ht]; exact lex_refl _ _⟩
  | f + 1, l => clo_best (clo_best (cl_best w f _) (cl_best w f _)) (cl_best w f _)
theorem fold_best (w : Int) : ∀ (T : List Int) (x : Int), 0 < x → (∀ t ∈ T, 0 < t) → Best w (x :: T) (T.foldl (upd w) x)
  | [], x, _, _ => ⟨by simp, fun t ht => by simp at ht; rw [ht]; exact lex_refl _ _⟩
  | t :: T, x, hx, hT => by
      have ht := hT t (by simp)
      have hu : (upd w x t = x ∨ upd w x t = t) ∧ lexLe w (upd w x t) x ∧ lexLe w (upd w x t) t := by
        unfold upd lexLe
        split <;> omega
      have hp : 0 < upd w x t := by rcases hu.1 with h | h <;> omega
      have ih := fold_best w T (upd w x t) hp (fun s hs => hT s (by simp [hs]))
      refine ⟨?_, fun s hs => ?_⟩
      · have := ih.1
        simp only [List.foldl_cons]
        rcases List.mem_cons.1 this with h | h
        · rw [h]
          rcases hu.1 with h2 | h2 <;> rw [h2] <;> simp
        · simp [h]
      · simp only [List.foldl_cons]
        have h1 := ih.2 _ (List.mem_cons_self)
        rcases List.mem_cons.1 hs with h | h
        · rw [h]; exact lex_trans h1 hu.2.1
        · rcases List.mem_cons.1 h with h | h
          · rw [h]; exact lex_trans h1 hu.2.2
          · exact ih.2 s (List.mem_cons_of_mem _ h)
def bst (w : Int) (T : List Int) : Int := T.foldl (upd w) (-1)
theorem bst_best (w : Int) (T : List Int) (h : T ≠ []) (hT : ∀ t ∈ T, 0 < t) : Best w T (bst w T) := by
  cases T with
  | nil => exact absurd rfl h
  | cons t T =>
    have e : bst w (t :: T) = T.foldl (upd w) t := by
      simp only [bst, List.foldl_cons]
      rw [show upd w (-1) t = t by simp [upd]]
    rw [e]
    exact fold_best w T t (hT t (by simp)) (fun s hs => hT s (by simp [hs]))
theorem bst_snoc (w : Int) (T : List Int) (n : Int) : bst w (T ++ [n]) = upd w (bst w T) n := by simp [bst, List.foldl_append]
theorem row_in (f a : Nat) (hf : f ≤ 6) : ∀ b, ∀ t ∈ row f a b, 1 ≤ t ∧ t ≤ 4096
  | 0 => by simp [row]
  | b + 1 => fun t ht => by
      simp only [row, List.mem_append, List.mem_singleton] at ht
      rcases ht with h | h
      · exact row_in f a hf b t h
      · rw [h]; exact pk_le a b f hf
theorem pre_in (f : Nat) (hf : f ≤ 6) : ∀ a, ∀ t ∈ pre f a, 1 ≤ t ∧ t ≤ 4096
  | 0 => by simp [pre]
  | a + 1 => fun t ht => by
      simp only [pre, List.mem_append] at ht
      rcases ht with h | h
      · exact pre_in f hf a t h
      · exact row_in f a hf _ t h
theorem bst_bd (w : Int) (T : List Int) (hT : ∀ t ∈ T, 1 ≤ t ∧ t ≤ 4096) : -1 ≤ bst w T ∧ bst w T ≤ 4096 := by
  by_cases h : T = []
  · subst h; simp [bst]
  · have := hT _ (bst_best w T h (fun t ht => by have := hT t ht; omega)).1
    omega
theorem same_set : ∀ f : Fin 7, ((leaves f.val 1).all (fun t => (pre f.val (f.val + 1)).contains t) && (pre f.val (f.val + 1)).all (fun t => (leaves f.val 1).contains t)) = true := by decide +kernel
theorem bst_cl (w : Int) (f : Nat) (hf : f ≤ 6) : bst w (pre f (f + 1)) = cl w f 1 := by
  have h := same_set ⟨f, by omega⟩
  simp only [Bool.and_eq_true, List.all_eq_true, List.contains_iff_mem] at h
  have hc := cl_best w f 1
  have hne : pre f (f + 1) ≠ [] := fun e => by have := h.1 _ hc.1; rw [e] at this; simp at this
  have hb := bst_best w _ hne (fun t ht => by have := pre_in f hf _ t ht; omega)
  exact lex_anti (hb.2 _ (h.1 _ hc.1)) (hc.2 _ (h.2 _ hb.1))
def closeV (w f : Int) : Int := if inB w 1 10000 && inB f 0 6 then cl w f.toNat 1 else -1
end Go.Proofs.Ytgjbbidcpmglbaa
