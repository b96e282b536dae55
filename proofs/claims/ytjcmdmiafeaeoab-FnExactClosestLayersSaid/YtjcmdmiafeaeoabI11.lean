/- Chapter 11: ClosestLayers. -/
import Derived.Test.YtjcmdmiafeaeoabC11
import Derived.Test.YtjcmdmiafeaeoabQuiet
namespace Go.Proofs.Ytjcmdmiafeaeoab
open Go.ChangeShapes Go.WideShapes Go.ChangeAt Go.RowKit
set_option linter.unusedVariables false
set_option linter.unusedSimpArgs false

def kst (a b k : Nat) : Int := if k < a then 2 else if k < a + b then 3 else 4
def pk (a b : Nat) : Nat → Int
  | 0 => 1
  | k + 1 => pk a b k * kst a b k
theorem pk_bd (a b : Nat) : ∀ k, 1 ≤ pk a b k ∧ pk a b k ≤ 4 ^ k
  | 0 => by simp [pk]
  | k + 1 => by
      have h := pk_bd a b k
      have e : (4 : Int) ^ (k + 1) = 4 ^ k * 4 := Int.pow_succ _ _
      simp only [pk, kst]
      rw [e]
      split
      · omega
      · split <;> omega
theorem pk_le (a b k : Nat) (hk : k ≤ 6) : 1 ≤ pk a b k ∧ pk a b k ≤ 4096 := by
  have h := pk_bd a b k
  have : (4 : Int) ^ k ≤ 4 ^ 6 := by
    have h1 : 4 ^ k ≤ 4 ^ 6 := Nat.pow_le_pow_right (by decide) hk
    exact_mod_cast h1
  have e : (4 : Int) ^ 6 = 4096 := by decide
  omega
def row (f a : Nat) : Nat → List Int
  | 0 => []
  | b + 1 => row f a b ++ [pk a b f]
def pre (f : Nat) : Nat → List Int
  | 0 => []
  | a + 1 => pre f a ++ row f a (f - a + 1)
def leaves : Nat → Int → List Int
  | 0, l => [l]
  | f + 1, l => leaves f (l * 2) ++ leaves f (l * 3) ++ leaves f (l * 4)
def dist (w v : Int) : Int := max (v - w) (w - v)
def lexLe (w a b : Int) : Prop := dist w a < dist w b ∨ (dist w a = dist w b ∧ a ≤ b)
theorem lex_refl (w a : Int) : lexLe w a a := Or.inr ⟨rfl, Int.le_refl _⟩
theorem lex_trans {w a b c : Int} (h1 : lexLe w a b) (h2 : lexLe w b c) : lexLe w a c := by unfold lexLe at *; omega
theorem lex_anti {w a b : Int} (h1 : lexLe w a b) (h2 : lexLe w b a) : a = b := by unfold lexLe at *; omega
def upd (w x n : Int) : Int := if x < 0 ∨ dist w n < dist w x ∨ (dist w n = dist w x ∧ n < x) then n else x
def cloV (w a b : Int) : Int := if dist w a < dist w b then a else if dist w b < dist w a then b else min a b
def cl (w : Int) : Nat → Int → Int
  | 0, l => l
  | f + 1, l => cloV w (cloV w (cl w f (l * 2)) (cl w f (l * 3))) (cl w f (l * 4))
def Best (w : Int) (T : List Int) (v : Int) : Prop := v ∈ T ∧ ∀ t ∈ T, lexLe w v t
theorem clo_best {w : Int} {T1 T2 : List Int} {a b : Int} (h1 : Best w T1 a) (h2 : Best w T2 b) : Best w (T1 ++ T2) (cloV w a b) := by
  have hl : (cloV w a b = a ∨ cloV w a b = b) ∧ lexLe w (cloV w a b) a ∧ lexLe w (cloV w a b) b := by
    unfold cloV lexLe
    split
    · omega
    · split
      · omega
      · by_cases h : a ≤ b
        · rw [Int.min_eq_left h]; omega
        · rw [Int.min_eq_right (by omega)]; omega
  refine ⟨?_, fun t ht => ?_⟩
  · rcases hl.1 with h | h
    · rw [h]; exact List.mem_append_left _ h1.1
    · rw [h]; exact List.mem_append_right _ h2.1
  · rcases List.mem_append.1 ht with h | h
    · exact lex_trans hl.2.1 (h1.2 t h)
    · exact lex_trans hl.2.2 (h2.2 t h)
theorem cl_best (w : Int) : ∀ (f : Nat) (l : Int), Best w (leaves f l) (cl w f l)
  | 0, l => ⟨by simp [leaves, cl], fun t ht => by simp [leaves] at ht; rw [ht]; exact lex_refl _ _⟩
  | f + 1, l => clo_best (clo_best (cl_best w f _) (cl_best w f _)) (cl_best w f _)
theorem fold_best (w : Int) : ∀ (T : List Int) (x : Int), 0 < x → (∀ t ∈ T, 0 < t) → Best w (x :: T) (T.foldl (upd w) x)
  | [], x, _, _ => ⟨by simp, fun t ht => by simp at ht; rw [ht]; exact lex_refl _ _⟩
  | t :: T, x, hx, hT => by
      have ht := hT t (by simp)
      have hu : (upd w x t = x ∨ upd w x t = t) ∧ lexLe w (upd w x t) x ∧ lexLe w (upd w x t) t := by
        unfold upd lexLe
        split <;> omega
      have hp : 0 < upd w x t := by rcases hu.1 with h | h <;> omega
      have ih := fold_best w T (upd w x t) hp (fun s hs => hT s (by simp [hs]))
      refine ⟨?_, fun s hs => ?_⟩
      · have := ih.1
        simp only [List.foldl_cons]
        rcases List.mem_cons.1 this with h | h
        · rw [h]
          rcases hu.1 with h2 | h2 <;> rw [h2] <;> simp
        · simp [h]
      · simp only [List.foldl_cons]
        have h1 := ih.2 _ (List.mem_cons_self)
        rcases List.mem_cons.1 hs with h | h
        · rw [h]; exact lex_trans h1 hu.2.1
        · rcases List.mem_cons.1 h with h | h
          · rw [h]; exact lex_trans h1 hu.2.2
          · exact ih.2 s (List.mem_cons_of_mem _ h)
def bst (w : Int) (T : List Int) : Int := T.foldl (upd w) (-1)
theorem bst_best (w : Int) (T : List Int) (h : T ≠ []) (hT : ∀ t ∈ T, 0 < t) : Best w T (bst w T) := by
  cases T with
  | nil => exact absurd rfl h
  | cons t T =>
    have e : bst w (t :: T) = T.foldl (upd w) t := by
      simp only [bst, List.foldl_cons]
      rw [show upd w (-1) t = t by simp [upd]]
    rw [e]
    exact fold_best w T t (hT t (by simp)) (fun s hs => hT s (by simp [hs]))
theorem bst_snoc (w : Int) (T : List Int) (n : Int) : bst w (T ++ [n]) = upd w (bst w T) n := by simp [bst, List.foldl_append]
theorem row_in (f a : Nat) (hf : f ≤ 6) : ∀ b, ∀ t ∈ row f a b, 1 ≤ t ∧ t ≤ 4096
  | 0 => by simp [row]
  | b + 1 => fun t ht => by
      simp only [row, List.mem_append, List.mem_singleton] at ht
      rcases ht with h | h
      · exact row_in f a hf b t h
      · rw [h]; exact pk_le a b f hf
theorem pre_in (f : Nat) (hf : f ≤ 6) : ∀ a, ∀ t ∈ pre f a, 1 ≤ t ∧ t ≤ 4096
  | 0 => by simp [pre]
  | a + 1 => fun t ht => by
      simp only [pre, List.mem_append] at ht
      rcases ht with h | h
      · exact pre_in f hf a t h
      · exact row_in f a hf _ t h
theorem bst_bd (w : Int) (T : List Int) (hT : ∀ t ∈ T, 1 ≤ t ∧ t ≤ 4096) : -1 ≤ bst w T ∧ bst w T ≤ 4096 := by
  by_cases h : T = []
  · subst h; simp [bst]
  · have := hT _ (bst_best w T h (fun t ht => by have := hT t ht; omega)).1
    omega
theorem same_set : ∀ f : Fin 7, ((leaves f.val 1).all (fun t => (pre f.val (f.val + 1)).contains t) && (pre f.val (f.val + 1)).all (fun t => (leaves f.val 1).contains t)) = true := by decide +kernel
theorem bst_cl (w : Int) (f : Nat) (hf : f ≤ 6) : bst w (pre f (f + 1)) = cl w f 1 := by
  have h := same_set ⟨f, by omega⟩
  simp only [Bool.and_eq_true, List.all_eq_true, List.contains_iff_mem] at h
  have hc := cl_best w f 1
  have hne : pre f (f + 1) ≠ [] := fun e => by have := h.1 _ hc.1; rw [e] at this; simp at this
  have hb := bst_best w _ hne (fun t ht => by have := pre_in f hf _ t ht; omega)
  exact lex_anti (hb.2 _ (h.1 _ hc.1)) (hc.2 _ (h.2 _ hb.1))
def closeV (w f : Int) : Int := if inB w 1 10000 && inB f 0 6 then cl w f.toNat 1 else -1
set_option maxHeartbeats 4000000 in
theorem sClosestLayers (w f : Int) (W : World) : Calls Try.prog 28 #[.int .i64 w, .int .i64 f] W (Val (i64 (closeV w f)) W) := by
  cases h1 : inB w 1 10000 <;> cases h2 : inB f 0 6
  case true.true =>
    obtain ⟨w1, w2⟩ := inB_tt h1
    obtain ⟨f1, f2⟩ := inB_tt h2
    obtain ⟨F, rfl⟩ : ∃ n : Nat, f = n := ⟨f.toNat, by omega⟩
    have hF : F ≤ 6 := by omega
    have HV : Hid (closeV w F = bst w (pre F (F + 1))) := Lib.hid (by rw [bst_cl w F hF]; simp [closeV, h1, h2])
    have HPB := Lib.hid (fun a b : Nat => bst_bd w (pre F a ++ row F a b) (fun t ht => by
      rcases List.mem_append.1 ht with h | h
      · exact pre_in F hF a t h
      · exact row_in F a hF b t h))
    go_enter Try.func28, Try.ntmps28
    go_wp2_with (first | (go_at_call 42; refine (sIn _ _ _ _).mono ?_; rintro e w' ⟨rfl, rfl⟩) | (go_at_call 39; refine (iIn _ _ _ _).mono ?_; rintro e w' ⟨rfl, rfl⟩) | go_in | (go_end0; simp only []; go_at_K))
    clear h1 h2
    go_loop [5, 6] (fun x i => ∃ a : Nat, a ≤ F + 1 ∧ i = .int .i64 (a : Int) ∧ x = .int .i64 (bst w (pre F a))) (fun _ i => F + 1 - (intOf i).toNat)
    case atStart => exact ⟨0, Nat.zero_le _, rfl, rfl⟩
    case round =>
      obtain ⟨a, ha, rfl, rfl⟩ := hrel
      by_cases hla : a ≤ F
      · have HR : Hid (pre F (a + 1) = pre F a ++ row F a (F - a + 1)) := Lib.hid rfl
        have HP0 : Hid (pre F a = pre F a ++ row F a 0) := Lib.hid (by simp [row])
        have HPBa := Lib.hid (HPB.out a)
        generalize hP : pre F a = P at HR HP0 HPBa
        have HP := Lib.hid hP
        clear hP
        go_wp2
        go_loop [5, 7] (fun x i => ∃ b : Nat, b ≤ F - a + 1 ∧ i = .int .i64 (b : Int) ∧ x = .int .i64 (bst w (P ++ row F a b))) (fun _ i => F + 1 - (intOf i).toNat)
        case atStart => exact ⟨0, Nat.zero_le _, rfl, v_int (by rw [← HP0.out]; try rw [HP.out])⟩
        case round =>
          obtain ⟨b, hb, rfl, rfl⟩ := hrel
          by_cases hlb : a + b ≤ F
          · have HU : Hid (bst w (P ++ row F a (b + 1)) = upd w (bst w (P ++ row F a b)) (pk a b F)) := Lib.hid (by rw [← bst_snoc, row, List.append_assoc])
            obtain ⟨B1, B2⟩ := HPBa.out b
            generalize bst w (P ++ row F a b) = B at HU B1 B2 ⊢
            go_wp2
            go_loop [8, 9] (fun x i => ∃ k : Nat, k ≤ F ∧ i = .int .i64 (k : Int) ∧ x = .int .i64 (pk a b k)) (fun _ i => F - (intOf i).toNat)
            case atStart => exact ⟨0, Nat.zero_le _, rfl, rfl⟩
            case round =>
              obtain ⟨k, hk, rfl, rfl⟩ := hrel
              obtain ⟨n1, n2⟩ := pk_le a b k (by omega)
              by_cases hlk : k < F
              · have HK : Hid (pk a b (k + 1) = pk a b k * kst a b k) := Lib.hid rfl
                generalize pk a b k = n at HK n1 n2 ⊢
                by_cases c1 : k < a
                · have HC : Hid (kst a b k = 2) := Lib.hid (by simp [kst, c1])
                  go_wp2
                  go_round
                  case rel => exact ⟨k + 1, by omega, by go_num, v_int (by rw [HK.out, HC.out]; try rw [w64 (by omega)])⟩
                  case measure => simp [intOf]; omega
                by_cases c2 : k < a + b
                · have HC : Hid (kst a b k = 3) := Lib.hid (by simp [kst, c1, c2])
                  go_wp2
                  go_round
                  case rel => exact ⟨k + 1, by omega, by go_num, v_int (by rw [HK.out, HC.out]; try rw [w64 (by omega)])⟩
                  case measure => simp [intOf]; omega
                · have HC : Hid (kst a b k = 4) := Lib.hid (by simp [kst, c1, c2])
                  go_wp2
                  go_round
                  case rel => exact ⟨k + 1, by omega, by go_num, v_int (by rw [HK.out, HC.out]; try rw [w64 (by omega)])⟩
                  case measure => simp [intOf]; omega
              · obtain rfl : F = k := by omega
                generalize pk a b F = n at HU n1 n2 ⊢
                by_cases hd : n - w < w - n <;> by_cases he : B - w < w - B
                all_goals
                  by_cases h1 : B < 0
                  · all_goals (first | (exfalso; omega) | skip)
                    all_goals go_wp2
                    all_goals go_round
                    all_goals first
                      | exact ⟨b + 1, by omega, by go_num, v_int (by rw [HU.out, upd, if_pos (by unfold dist; omega)])⟩
                      | (simp [intOf]; omega)
                  have h1' : 0 ≤ B := by omega
                  by_cases h2 : max (n - w) (w - n) < max (B - w) (w - B)
                  · all_goals (first | (exfalso; omega) | skip)
                    all_goals go_wp2
                    all_goals go_round
                    all_goals first
                      | exact ⟨b + 1, by omega, by go_num, v_int (by rw [HU.out, upd, if_pos (by unfold dist; omega)])⟩
                      | (simp [intOf]; omega)
                  by_cases h3 : max (n - w) (w - n) = max (B - w) (w - B)
                  · by_cases h4 : n < B
                    · all_goals (first | (exfalso; omega) | skip)
                      all_goals go_wp2
                      all_goals go_round
                      all_goals first
                        | exact ⟨b + 1, by omega, by go_num, v_int (by rw [HU.out, upd, if_pos (by unfold dist; omega)])⟩
                        | (simp [intOf]; omega)
                    · all_goals (first | (exfalso; omega) | skip)
                      all_goals go_wp2
                      all_goals go_round
                      all_goals first
                        | exact ⟨b + 1, by omega, by go_num, v_int (by rw [HU.out, upd, if_neg (by unfold dist; omega)])⟩
                        | (simp [intOf]; omega)
                  · all_goals (first | (exfalso; omega) | skip)
                    all_goals go_wp2
                    all_goals go_round
                    all_goals first
                      | exact ⟨b + 1, by omega, by go_num, v_int (by rw [HU.out, upd, if_neg (by unfold dist; omega)])⟩
                      | (simp [intOf]; omega)
          · obtain rfl : F - a + 1 = b := by omega
            go_wp2
            go_round
            case rel => exact ⟨a + 1, by omega, by go_num, v_int (by rw [HR.out])⟩
            case measure => simp [intOf]; omega
      · obtain rfl : a = F + 1 := by omega
        go_wp2
        go_ret
        exact Val.mk' (v_int HV.out.symm) (by (repeat (first | exact In.refl _ | assumption | apply In.alloc | apply In.drewN | apply In.drew | (refine In.step ?_ (by assumption)))))
  all_goals
    have HV : Hid (closeV w f = -1) := Lib.hid (by simp [closeV, h1, h2])
    go_enter Try.func28, Try.ntmps28
    go_wp2_with (first | (go_at_call 42; refine (sIn _ _ _ _).mono ?_; rintro e w' ⟨rfl, rfl⟩) | (go_at_call 39; refine (iIn _ _ _ _).mono ?_; rintro e w' ⟨rfl, rfl⟩) | go_in | (go_end0; simp only []; go_at_K))
    go_ret
    exact Val.mk' (v_int HV.out.symm) (by (repeat (first | exact In.refl _ | assumption | apply In.alloc | apply In.drewN | apply In.drew | (refine In.step ?_ (by assumption)))))
end Go.Proofs.Ytjcmdmiafeaeoab
