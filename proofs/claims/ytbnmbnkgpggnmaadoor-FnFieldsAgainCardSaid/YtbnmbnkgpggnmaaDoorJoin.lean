/- The fields of fields joined by spaces (no dump). -/
import Derived.Test.YtbnmbnkgpggnmaaDoorSplit
import Derived.Lib.Strings
namespace Go.Proofs.YtbnmbnkgpggnmaaDoor
open Go.RowKit

def J (xs : List ByteArray) : List UInt8 := xs.flatMap fun f => f.data.toList ++ [32]
def Good (f : ByteArray) : Prop := f.size ≠ 0 ∧ (f.size : Int) ≤ 600 ∧ ∀ c ∈ f.data.toList, c ≠ 32 ∧ ¬ bad c
theorem chr_list (s : ByteArray) (i : Nat) (h : i < s.size) : s.data.toList[i]? = some (chr s i) := by
  unfold chr
  rw [List.getD_eq_getElem?_getD, List.getElem?_eq_getElem (by simpa using h)]; rfl
theorem mem_ext (s : ByteArray) (a b : Nat) (c : UInt8) (hb : b ≤ s.size) (h : c ∈ (s.extract a b).data.toList) : ∃ i, a ≤ i ∧ i < b ∧ chr s i = c := by
  rw [Lib.extract_data] at h
  obtain ⟨j, hj, e⟩ := List.mem_iff_getElem.1 h
  have hl : j < b - a := by have := hj; simp at this; omega
  have h2 : ((s.data.toList.drop a).take (b - a))[j]? = some c := by rw [List.getElem?_eq_getElem hj, e]
  rw [List.getElem?_take, if_pos hl, List.getElem?_drop, chr_list s (a + j) (by omega)] at h2
  exact ⟨a + j, by omega, by omega, by injection h2⟩

theorem good_ext (s : ByteArray) (a b : Nat) (hb : b ≤ s.size) (hab : a < b) (h6 : (s.size : Int) ≤ 600) (hok : ∀ i, i < s.size → ¬ bad (chr s i)) (hsp : ∀ i, a ≤ i → i < b → chr s i ≠ 32) : Good (s.extract a b) := by
  refine ⟨by rw [ext_size s a b hb]; omega, by rw [ext_size s a b hb]; omega, fun c hc => ?_⟩
  obtain ⟨i, h1, h2, rfl⟩ := mem_ext s a b c hb hc
  exact ⟨hsp i h1 h2, hok i (by omega)⟩
theorem good_add (s : ByteArray) (fs : List ByteArray) (a b : Nat) (hb : b ≤ s.size) (h6 : (s.size : Int) ≤ 600) (hok : ∀ i, i < s.size → ¬ bad (chr s i)) (hsp : ∀ i, a ≤ i → i < b → chr s i ≠ 32) (hfs : ∀ f ∈ fs, Good f) :
    ∀ f ∈ addF fs (s.extract a b), Good f := by
  by_cases hab : a < b
  · rw [addF_more fs s a b hb hab]
    intro f hf
    rcases List.mem_append.1 hf with hf | hf
    · exact hfs f hf
    · simp only [List.mem_singleton] at hf; subst hf; exact good_ext s a b hb hab h6 hok hsp
  · rw [addF_empty fs s a b hb hab]; exact hfs
theorem good_st (s : ByteArray) (h6 : (s.size : Int) ≤ 600) (hok : ∀ i, i < s.size → ¬ bad (chr s i)) : ∀ k, k ≤ s.size → (∀ f ∈ (stF s k).1, Good f) ∧ ∀ i, (stF s k).2 ≤ i → i < k → chr s i ≠ 32
  | 0, _ => ⟨fun f hf => (by cases hf), fun i _ hi => absurd hi (Nat.not_lt_zero _)⟩
  | k + 1, hk => by
    have ih := good_st s h6 hok k (by omega)
    by_cases h : chr s k = 32
    · rw [stF_space s k h]
      exact ⟨good_add s _ _ k (by omega) h6 hok ih.2 ih.1, fun i h1 h2 => by simp only at h1; omega⟩
    · rw [stF_other s k h]
      refine ⟨ih.1, fun i h1 h2 => ?_⟩
      by_cases e : i = k
      · subst e; exact h
      · exact ih.2 i h1 (by omega)
theorem fields_good (s : ByteArray) (h6 : (s.size : Int) ≤ 600) (hok : ∀ i, i < s.size → ¬ bad (chr s i)) : ∀ f ∈ fields s, Good f := by
  have h := good_st s h6 hok s.size (Nat.le_refl _)
  exact good_add s _ _ s.size (Nat.le_refl _) h6 hok h.2 h.1

theorem run_field (s : ByteArray) (L : Nat) (f : List UInt8) (fs : List ByteArray) (hst : stF s L = (fs, L)) (hch : ∀ j (h : j < f.length), chr s (L + j) = f[j]) (h32 : ∀ c ∈ f, c ≠ 32) : ∀ j, j ≤ f.length → stF s (L + j) = (fs, L)
  | 0, _ => hst
  | j + 1, hj => by
    have ih := run_field s L f fs hst hch h32 j (by omega)
    rw [show L + (j + 1) = (L + j) + 1 from rfl, stF_other s (L + j) (by rw [hch j (by omega)]; exact h32 _ (List.getElem_mem _))]
    exact ih
theorem J_cons (f : ByteArray) (xs : List ByteArray) : J (f :: xs) = f.data.toList ++ 32 :: J xs := by simp [J]
theorem J_app (xs ys : List ByteArray) : J (xs ++ ys) = J xs ++ J ys := by simp [J]
theorem J_snoc (xs : List ByteArray) (f : ByteArray) : J (xs ++ [f]) = J xs ++ f.data.toList ++ [32] := by rw [J_app]; simp [J]

theorem st_join (s : ByteArray) : ∀ (zs ys : List ByteArray), s.data.toList = J ys ++ J zs → (∀ f ∈ zs, Good f) → stF s (J ys).length = (ys, (J ys).length) → stF s s.size = (ys ++ zs, s.size)
  | [], ys, hs, _, hst => by
    have hl : s.size = (J ys).length := by rw [Lib.size_eq, hs]; simp [J]
    rw [hl, hst]; simp
  | f :: zs, ys, hs, hg, hst => by
    have hgf := hg f (by simp)
    have hsz : s.size = (J ys).length + (J (f :: zs)).length := by rw [Lib.size_eq, hs, List.length_append]
    have hc : (J (f :: zs)).length = f.data.toList.length + 1 + (J zs).length := by rw [J_cons]; simp; omega
    have hfl : f.data.toList.length = f.size := (Lib.size_eq f).symm
    have hch : ∀ j (h : j < f.data.toList.length), chr s ((J ys).length + j) = f.data.toList[j] := fun j h => by
      unfold chr
      rw [hs, J_cons, List.getD_eq_getElem?_getD, List.getElem?_append_right (by omega), Nat.add_sub_cancel_left, List.getElem?_append_left h, List.getElem?_eq_getElem h]; rfl
    have h1 := run_field s (J ys).length f.data.toList ys hst hch (fun c hcm => (hgf.2.2 c hcm).1) f.data.toList.length (Nat.le_refl _)
    have hsp : chr s ((J ys).length + f.data.toList.length) = 32 := by
      unfold chr
      rw [hs, J_cons, List.getD_eq_getElem?_getD, List.getElem?_append_right (by omega), Nat.add_sub_cancel_left, List.getElem?_append_right (Nat.le_refl _)]; simp
    have h2 := stF_space s _ hsp
    rw [h1] at h2
    simp only at h2
    have hex : s.extract (J ys).length ((J ys).length + f.data.toList.length) = f := by
      have e : (s.extract (J ys).length ((J ys).length + f.data.toList.length)).data.toList = f.data.toList := by
        rw [Lib.extract_data, hs, J_cons, Nat.add_sub_cancel_left, List.drop_left, List.take_left]
      have : ∀ (a b : ByteArray), a.data.toList = b.data.toList → a = b := fun a b h => by
        obtain ⟨⟨a⟩⟩ := a
        obtain ⟨⟨b⟩⟩ := b
        simp only at h
        rw [h]
      exact this _ _ e
    rw [addF_more ys s _ _ (by omega) (by have := hgf.1; omega), hex] at h2
    have hJ : (J (ys ++ [f])).length = (J ys).length + f.data.toList.length + 1 := by rw [J_snoc]; simp; omega
    have h3 := st_join s zs (ys ++ [f]) (by rw [hs, J_cons, J_snoc]; simp) (fun x hx => hg x (by simp [hx])) (by rw [hJ]; exact h2)
    rw [h3]; simp

theorem fields_join (xs : List ByteArray) (hg : ∀ f ∈ xs, Good f) : fields ⟨(J xs).toArray⟩ = xs := by
  have h := st_join ⟨(J xs).toArray⟩ xs [] (by simp [J]) hg rfl
  unfold fields
  rw [h]
  simp only [List.nil_append]
  exact addF_empty xs _ _ _ (Nat.le_refl _) (by omega)
theorem join_ok (xs : List ByteArray) (hg : ∀ f ∈ xs, Good f) : ∀ i, i < (⟨(J xs).toArray⟩ : ByteArray).size → ¬ bad (chr ⟨(J xs).toArray⟩ i) := fun i hi => by
  have h1 := chr_list ⟨(J xs).toArray⟩ i hi
  have h2 : chr ⟨(J xs).toArray⟩ i ∈ J xs := List.mem_of_getElem? h1
  generalize chr ⟨(J xs).toArray⟩ i = c at h2
  unfold J at h2
  obtain ⟨f, hf, hc⟩ := List.mem_flatMap.1 h2
  rcases List.mem_append.1 hc with hc | hc
  · exact ((hg f hf).2.2 c hc).2
  · simp only [List.mem_singleton] at hc; subst hc; unfold bad; decide
theorem J_len : ∀ (xs : List ByteArray), (∀ f ∈ xs, Good f) → ((J xs).length : Int) ≤ 601 * xs.length
  | [], _ => by simp [J]
  | f :: xs, hg => by
    have ih := J_len xs (fun x hx => hg x (by simp [hx]))
    have h6 := (hg f (by simp)).2.1
    have hfl : f.data.toList.length = f.size := (Lib.size_eq f).symm
    rw [J_cons]
    simp only [List.length_append, List.length_cons]
    omega
end Go.Proofs.YtbnmbnkgpggnmaaDoor
