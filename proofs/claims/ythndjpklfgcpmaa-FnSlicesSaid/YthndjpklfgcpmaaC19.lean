/- Chapter 19: SlicesOf, LastSlice, ThickestFor, CrustParts. -/
import Derived.Test.YthndjpklfgcpmaaAll
namespace Go.Proofs.Ythndjpklfgcpmaa
open Go.ChangeShapes Go.WideShapes Go.ChangeAt Go.RowKit
set_option linter.unusedVariables false
set_option linter.unusedSimpArgs false

def sliceB (l t : Int) : Bool := inB l 1 1000 && inB t 1 100
def slicesV (l t : Int) : Int := if sliceB l t then l / t else -1
def lastV (l t : Int) : Int := if sliceB l t then l % t else -1
def thickV (l n : Int) : Int := if inB l 1 1000 && inB n 1 1000 then (if l < n then -1 else min 100 (l / n)) else -1
theorem slices_in {l t : Int} (h : sliceB l t = true) : 1 ≤ l ∧ l ≤ 1000 ∧ 1 ≤ t ∧ t ≤ 100 ∧ 0 ≤ l / t ∧ l / t ≤ 1000 ∧ 0 ≤ (l / t) * t ∧ (l / t) * t ≤ l ∧ l - (l / t) * t = l % t := by
  simp only [sliceB, Bool.and_eq_true] at h
  have h1 := inB_tt h.1
  have h2 := inB_tt h.2
  have h3 : 0 ≤ l / t := Int.ediv_nonneg (by omega) (by omega)
  have h4 := Int.ediv_le_self (a := l) t (by omega)
  have h5 : 0 ≤ (l / t) * t := Int.mul_nonneg h3 (by omega)
  have h6 : (l / t) * t + l % t = l := by rw [Int.mul_comm]; exact Int.mul_ediv_add_emod l t
  have h7 := Int.emod_nonneg l (show t ≠ 0 by omega)
  refine ⟨h1.1, h1.2, h2.1, h2.2, h3, ?_, h5, ?_, ?_⟩ <;> omega
theorem ilengthOk (l : Int) (w : World) : Calls Try.prog 49 #[.int .i64 l] w (Same (.bool (inB l 1 1000)) w) := by
  go_enter Try.func49, Try.ntmps49
  go_wp2_with (first | (go_at_call 48; refine (sIn _ _ _ _).mono ?_; rintro e w' ⟨rfl, rfl⟩) | (go_at_call 50; refine (iIn _ _ _ _).mono ?_; rintro e w' ⟨rfl, rfl⟩) | go_in | (go_end0; simp only []; go_at_K))
  go_ret
  exact ⟨rfl, rfl⟩
theorem icanSlice (l t : Int) (w : World) : Calls Try.prog 55 #[.int .i64 l, .int .i64 t] w (Same (.bool (sliceB l t)) w) := by
  go_enter Try.func55, Try.ntmps55
  go_wp2_with fail
  refine (ilengthOk l _).mono ?_
  rintro _ _ ⟨rfl, rfl⟩
  cases h1 : inB l 1 1000
  · go_wp2
    go_ret
    exact ⟨ret_bool (by simp [sliceB, h1]), rfl⟩
  cases h2 : inB t 1 100
  all_goals
    go_wp2_with (first | (go_at_call 48; refine (sIn _ _ _ _).mono ?_; rintro e w' ⟨rfl, rfl⟩) | (go_at_call 50; refine (iIn _ _ _ _).mono ?_; rintro e w' ⟨rfl, rfl⟩) | go_in | (go_end0; simp only []; go_at_K))
    go_ret
    exact ⟨ret_bool (by simp [sliceB, h1, h2]), rfl⟩
theorem sSlicesOf (l t : Int) (w : World) : Calls Try.prog 53 #[.int .i64 l, .int .i64 t] w (Same (i64 (slicesV l t)) w) := by
  cases h1 : inB l 1 1000
  · go_enter Try.func53, Try.ntmps53
    go_wp2_with (first | (go_at_call 48; refine (sIn _ _ _ _).mono ?_; rintro e w' ⟨rfl, rfl⟩) | (go_at_call 50; refine (iIn _ _ _ _).mono ?_; rintro e w' ⟨rfl, rfl⟩) | go_in | (go_end0; simp only []; go_at_K))
    go_ret
    exact ⟨ret_int (by simp [slicesV, sliceB, h1]), rfl⟩
  cases h2 : inB t 1 100
  · go_enter Try.func53, Try.ntmps53
    go_wp2_with (first | (go_at_call 48; refine (sIn _ _ _ _).mono ?_; rintro e w' ⟨rfl, rfl⟩) | (go_at_call 50; refine (iIn _ _ _ _).mono ?_; rintro e w' ⟨rfl, rfl⟩) | go_in | (go_end0; simp only []; go_at_K))
    go_ret
    exact ⟨ret_int (by simp [slicesV, sliceB, h2]), rfl⟩
  obtain ⟨a1, a2⟩ := inB_tt h1
  obtain ⟨b1, b2⟩ := inB_tt h2
  go_enter Try.func53, Try.ntmps53
  go_wp2_with (first | (go_at_call 48; refine (sIn _ _ _ _).mono ?_; rintro e w' ⟨rfl, rfl⟩) | (go_at_call 50; refine (iIn _ _ _ _).mono ?_; rintro e w' ⟨rfl, rfl⟩) | go_in | (go_end0; simp only []; go_at_K))
  go_ret
  exact ⟨ret_int (by simp [slicesV, sliceB, h1, h2]), rfl⟩
theorem iSlicesOf (l t : Int) (w : World) : Calls Try.prog 21 #[.int .i64 l, .int .i64 t] w (Same (i64 (slicesV l t)) w) := by
  cases h : sliceB l t
  · go_enter Try.func21, Try.ntmps21
    go_wp2_with (first | (go_at_call 48; refine (sIn _ _ _ _).mono ?_; rintro e w' ⟨rfl, rfl⟩) | (go_at_call 50; refine (iIn _ _ _ _).mono ?_; rintro e w' ⟨rfl, rfl⟩) | (go_at_call 55; refine (icanSlice l t _).mono ?_; rintro e w' ⟨rfl, rfl⟩) | go_in | (go_end0; simp only []; go_at_K))
    go_ret
    exact ⟨ret_int (by simp [slicesV, h]), rfl⟩
  obtain ⟨a1, a2, b1, b2, _⟩ := slices_in h
  go_enter Try.func21, Try.ntmps21
  go_wp2_with (first | (go_at_call 48; refine (sIn _ _ _ _).mono ?_; rintro e w' ⟨rfl, rfl⟩) | (go_at_call 50; refine (iIn _ _ _ _).mono ?_; rintro e w' ⟨rfl, rfl⟩) | (go_at_call 55; refine (icanSlice l t _).mono ?_; rintro e w' ⟨rfl, rfl⟩) | go_in | (go_end0; simp only []; go_at_K))
  go_ret
  exact ⟨ret_int (by simp [slicesV, h]), rfl⟩
theorem sLastSlice (l t : Int) (w : World) : Calls Try.prog 54 #[.int .i64 l, .int .i64 t] w (Same (i64 (lastV l t)) w) := by
  cases h : sliceB l t
  · have hs : slicesV l t = -1 := by simp [slicesV, h]
    go_enter Try.func54, Try.ntmps54
    go_wp2_with fail
    refine (sSlicesOf l t _).mono ?_
    rintro _ _ ⟨rfl, rfl⟩
    rw [hs]
    go_wp2
    go_ret
    exact ⟨ret_int (by simp [lastV, h]), rfl⟩
  have hs : slicesV l t = l / t := by simp [slicesV, h]
  obtain ⟨a1, a2, b1, b2, c1, c2, c3, c4, c5⟩ := slices_in h
  have HV : Hid (lastV l t = l - (l / t) * t) := Lib.hid (by rw [c5]; simp [lastV, h])
  clear c5
  generalize l / t = q at *
  go_enter Try.func54, Try.ntmps54
  go_wp2_with fail
  refine (sSlicesOf l t _).mono ?_
  rintro _ _ ⟨rfl, rfl⟩
  rw [hs]
  go_wp2
  go_ret
  exact ⟨ret_int HV.out.symm, rfl⟩
theorem iLastSlice (l t : Int) (w : World) : Calls Try.prog 22 #[.int .i64 l, .int .i64 t] w (Same (i64 (lastV l t)) w) := by
  cases h : sliceB l t
  · go_enter Try.func22, Try.ntmps22
    go_wp2_with (first | (go_at_call 48; refine (sIn _ _ _ _).mono ?_; rintro e w' ⟨rfl, rfl⟩) | (go_at_call 50; refine (iIn _ _ _ _).mono ?_; rintro e w' ⟨rfl, rfl⟩) | (go_at_call 55; refine (icanSlice l t _).mono ?_; rintro e w' ⟨rfl, rfl⟩) | go_in | (go_end0; simp only []; go_at_K))
    go_ret
    exact ⟨ret_int (by simp [lastV, h]), rfl⟩
  obtain ⟨a1, a2, b1, b2, _⟩ := slices_in h
  go_enter Try.func22, Try.ntmps22
  go_wp2_with (first | (go_at_call 48; refine (sIn _ _ _ _).mono ?_; rintro e w' ⟨rfl, rfl⟩) | (go_at_call 50; refine (iIn _ _ _ _).mono ?_; rintro e w' ⟨rfl, rfl⟩) | (go_at_call 55; refine (icanSlice l t _).mono ?_; rintro e w' ⟨rfl, rfl⟩) | go_in | (go_end0; simp only []; go_at_K))
  go_ret
  exact ⟨ret_int (by simp [lastV, h]), rfl⟩
theorem iThickestFor (l n : Int) (w : World) : Calls Try.prog 23 #[.int .i64 l, .int .i64 n] w (Same (i64 (thickV l n)) w) := by
  cases h1 : inB l 1 1000
  · go_enter Try.func23, Try.ntmps23
    go_wp2_with (first | (go_at_call 48; refine (sIn _ _ _ _).mono ?_; rintro e w' ⟨rfl, rfl⟩) | (go_at_call 50; refine (iIn _ _ _ _).mono ?_; rintro e w' ⟨rfl, rfl⟩) | (go_at_call 49; refine (ilengthOk l _).mono ?_; rintro e w' ⟨rfl, rfl⟩) | go_in | (go_end0; simp only []; go_at_K))
    go_ret
    exact ⟨ret_int (by simp [thickV, h1]), rfl⟩
  cases h2 : inB n 1 1000
  · go_enter Try.func23, Try.ntmps23
    go_wp2_with (first | (go_at_call 48; refine (sIn _ _ _ _).mono ?_; rintro e w' ⟨rfl, rfl⟩) | (go_at_call 50; refine (iIn _ _ _ _).mono ?_; rintro e w' ⟨rfl, rfl⟩) | (go_at_call 49; refine (ilengthOk l _).mono ?_; rintro e w' ⟨rfl, rfl⟩) | go_in | (go_end0; simp only []; go_at_K))
    go_ret
    exact ⟨ret_int (by simp [thickV, h2]), rfl⟩
  obtain ⟨a1, a2⟩ := inB_tt h1
  obtain ⟨b1, b2⟩ := inB_tt h2
  by_cases h3 : l < n
  · go_enter Try.func23, Try.ntmps23
    go_wp2_with (first | (go_at_call 48; refine (sIn _ _ _ _).mono ?_; rintro e w' ⟨rfl, rfl⟩) | (go_at_call 50; refine (iIn _ _ _ _).mono ?_; rintro e w' ⟨rfl, rfl⟩) | (go_at_call 49; refine (ilengthOk l _).mono ?_; rintro e w' ⟨rfl, rfl⟩) | go_in | (go_end0; simp only []; go_at_K))
    go_ret
    exact ⟨ret_int (by simp [thickV, h1, h2, h3]), rfl⟩
  have hv : thickV l n = min 100 (l / n) := by simp [thickV, h1, h2, h3]
  by_cases h4 : l / n < 100
  all_goals
    go_enter Try.func23, Try.ntmps23
    go_wp2_with (first | (go_at_call 48; refine (sIn _ _ _ _).mono ?_; rintro e w' ⟨rfl, rfl⟩) | (go_at_call 50; refine (iIn _ _ _ _).mono ?_; rintro e w' ⟨rfl, rfl⟩) | (go_at_call 49; refine (ilengthOk l _).mono ?_; rintro e w' ⟨rfl, rfl⟩) | go_in | (go_end0; simp only []; go_at_K))
    go_ret
    exact ⟨ret_int (by rw [hv]; omega), rfl⟩
def crustB (a b c : Int) : Bool := inB a 1 100 && inB b 1 100 && inB c 1 100
def ins (a : Int) : Int := max 0 (a - 2)
def crustV (a b c : Int) : Int := if crustB a b c then a * b * c - ins a * ins b * ins c else -1
theorem crust_all (a b c : Int) : allIn [a, b, c] 1 100 3 = crustB a b c := by simp [allIn, allOk, inAt, crustB]
theorem prod3 {a b c : Int} (h1 : 0 ≤ a ∧ a ≤ 100) (h2 : 0 ≤ b ∧ b ≤ 100) (h3 : 0 ≤ c ∧ c ≤ 100) : 0 ≤ a * b ∧ a * b ≤ 10000 ∧ 0 ≤ a * b * c ∧ a * b * c ≤ 1000000 := by
  have e1 := mul_in h1.1 h1.2 h2.1 h2.2
  have e2 := mul_in e1.1 e1.2 h3.1 h3.2
  omega
theorem iinside (a : Int) (h : 1 ≤ a ∧ a ≤ 100) (w : World) : Calls Try.prog 60 #[.int .i64 a] w (Same (i64 (ins a)) w) := by
  by_cases h1 : 0 < a - 2
  all_goals
    go_enter Try.func60, Try.ntmps60
    go_wp2
    go_ret
    exact ⟨ret_int (by unfold ins; omega), rfl⟩
theorem iCrustParts (a b c : Int) (w : World) : Calls Try.prog 26 #[.int .i64 a, .int .i64 b, .int .i64 c] w (Val (i64 (crustV a b c)) w) := by
  cases h : crustB a b c
  · go_enter Try.func26, Try.ntmps26
    go_wp2_with fail
    refine (iAll _ 3 3 [a, b, c] 1 100 _ (by unfold maxLen; omega) (reads_at _ _ #[.int .i64 a, .int .i64 b, .int .i64 c] [a, b, c] _ rfl rfl)).mono ?_
    rintro _ _ ⟨rfl, rfl⟩
    rw [crust_all, h]
    go_wp2
    go_ret
    exact Val.mk' (v_int (by simp [crustV, h])) (by (repeat (first | exact In.refl _ | assumption | apply In.alloc | apply In.drewN | apply In.drew | (refine In.step ?_ (by assumption)))))
  have HV : Hid (crustV a b c = a * b * c - ins a * ins b * ins c) := Lib.hid (by simp [crustV, h])
  have hh := h
  simp only [crustB, Bool.and_eq_true] at hh
  have a1 := inB_tt hh.1.1
  have b1 := inB_tt hh.1.2
  have c1 := inB_tt hh.2
  have ia : 0 ≤ ins a ∧ ins a ≤ 100 := by unfold ins; omega
  have ib : 0 ≤ ins b ∧ ins b ≤ 100 := by unfold ins; omega
  have ic : 0 ≤ ins c ∧ ins c ≤ 100 := by unfold ins; omega
  obtain ⟨p1, p2, p3, p4⟩ := prod3 (a := a) (b := b) (c := c) (by omega) (by omega) (by omega)
  obtain ⟨q1, q2, q3, q4⟩ := prod3 ia ib ic
  go_enter Try.func26, Try.ntmps26
  go_wp2_with fail
  refine (iAll _ 3 3 [a, b, c] 1 100 _ (by unfold maxLen; omega) (reads_at _ _ #[.int .i64 a, .int .i64 b, .int .i64 c] [a, b, c] _ rfl rfl)).mono ?_
  rintro _ _ ⟨rfl, rfl⟩
  rw [crust_all, h]
  go_wp2_with fail
  refine (iinside a a1 _).mono ?_
  rintro _ _ ⟨rfl, rfl⟩
  go_wp2_with fail
  refine (iinside b b1 _).mono ?_
  rintro _ _ ⟨rfl, rfl⟩
  go_wp2_with fail
  refine (iinside c c1 _).mono ?_
  rintro _ _ ⟨rfl, rfl⟩
  generalize ins a = x at *
  generalize ins b = y at *
  generalize ins c = z at *
  go_wp2
  go_ret
  exact Val.mk' (v_int HV.out.symm) (by (repeat (first | exact In.refl _ | assumption | apply In.alloc | apply In.drewN | apply In.drew | (refine In.step ?_ (by assumption)))))
end Go.Proofs.Ythndjpklfgcpmaa
