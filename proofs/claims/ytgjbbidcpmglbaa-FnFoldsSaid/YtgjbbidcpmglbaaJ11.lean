/- Chapter 11: ClosestLayers, the program. -/
import Derived.Test.YtgjbbidcpmglbaaI11
import Derived.Test.YtgjbbidcpmglbaaAll
namespace Go.Proofs.Ytgjbbidcpmglbaa
open Go.ChangeShapes Go.WideShapes Go.ChangeAt Go.RowKit
set_option linter.unusedVariables false
set_option linter.unusedSimpArgs false

theorem readsLit (w : World) (t : TypeId) (cs : Array Value) (zs : List Int) (g : Nat) (hg : w.heap.size = g) (hz : cs.toList = iv zs) : ReadsI (w.alloc (.cells cs t)) (some ⟨g, 0, none⟩) zs.length zs := by
  subst hg
  refine ⟨rfl, fun k hk => ⟨_, rfl, ?_⟩⟩
  rw [Addr.add_lit, Nat.zero_add, (Blk.new w t cs).cell k, ← Array.getElem?_toList, hz]
  exact iv_at zs k hk
def p2 (a b : Int) : Nat → Int
  | 0 => 1
  | 1 => a
  | _ + 2 => a * b
theorem p2_step {a b : Int} {k : Nat} (h : k < 2) : p2 a b (k + 1) = p2 a b k * ([a, b] : List Int).getD k 0 := by
  rcases k with _ | _ | k
  · simp [p2]
  · simp [p2]
  · omega
theorem p2_in {a b : Int} {k : Nat} (h : k < 2) (ha : 1 ≤ a ∧ a ≤ 4096) : 1 ≤ p2 a b k ∧ p2 a b k ≤ 4096 := by
  rcases k with _ | _ | k
  · simp [p2]
  · simpa [p2] using ha
  · omega
theorem two_in {a b : Int} {k : Nat} (h : k < 2) (ha : 1 ≤ a ∧ a ≤ 4096) (hb : 2 ≤ b ∧ b ≤ 4) : 1 ≤ ([a, b] : List Int).getD k 0 ∧ ([a, b] : List Int).getD k 0 ≤ 4096 := by
  rcases k with _ | _ | k
  · simpa using ha
  · simp; omega
  · omega
set_option maxHeartbeats 1000000 in
theorem ilayers2 (A : Option Addr) (c : Nat) (a b : Int) (w : World) (ha : 1 ≤ a ∧ a ≤ 4096) (hb : 2 ≤ b ∧ b ≤ 4) (hx : ReadsI w A 2 [a, b]) : Calls Try.prog 76 #[.slice A 2 c] w (Same (i64 (a * b)) w) := by
  obtain ⟨n, hn⟩ : ∃ n : Nat, n = 2 := ⟨2, rfl⟩
  have HE : Hid (p2 a b n = a * b) := Lib.hid (by rw [hn]; rfl)
  have HP := Lib.hid (fun k (h : k < n) => p2_step (a := a) (b := b) (k := k) (by omega))
  have HI := Lib.hid (fun k (h : k < n) => p2_in (a := a) (b := b) (k := k) (by omega) ha)
  have HT := Lib.hid (fun k (h : k < n) => two_in (k := k) (by omega) ha hb)
  generalize ([a, b] : List Int) = xs at hx HP HT
  rw [← hn] at hx ⊢
  have hn8 : n ≤ 8 := by omega
  clear hn
  go_enter Try.func76, Try.ntmps76
  go_wp2
  go_loop [3, 8] (fun v i => ∃ k : Nat, k ≤ n ∧ i = .int .i64 k ∧ v = .int .i64 (p2 a b k)) (fun _ i => n - (intOf i).toNat)
  case atStart => exact ⟨0, Nat.zero_le _, rfl, rfl⟩
  case round =>
    obtain ⟨k, hk, rfl, rfl⟩ := hrel
    by_cases hlt : k < n
    · have HU := Lib.hid (HP.out k hlt)
      obtain ⟨i1, i2⟩ := HI.out k hlt
      obtain ⟨x1, x2⟩ := HT.out k hlt
      obtain ⟨ad, rfl, had⟩ := hx.2 k hlt
      generalize xs.getD k 0 = x at had HU x1 x2
      obtain ⟨m1, m2⟩ := mul_in (a := p2 a b k) (b := x) (A := 4096) (B := 4096) (by omega) i2 (by omega) x2
      generalize p2 a b k = p at *
      go_wp2
      go_round
      case rel => exact ⟨k + 1, by omega, by go_num, v_int HU.out.symm⟩
      case measure => simp [intOf]; omega
    · obtain rfl : k = n := by omega
      go_wp2
      go_ret
      exact ⟨ret_int HE.out, rfl⟩
theorem idist (a b : Int) (ha : -1000000 ≤ a ∧ a ≤ 1000000) (hb : -1000000 ≤ b ∧ b ≤ 1000000) (w : World) : Calls Try.prog 122 #[.int .i64 a, .int .i64 b] w (Same (i64 (dist b a)) w) := by
  by_cases h : a - b < b - a
  all_goals
    go_enter Try.func122, Try.ntmps122
    go_wp2
    go_ret
    exact ⟨ret_int (by unfold dist; omega), rfl⟩
theorem icloserOf (w a b : Int) (hw : 1 ≤ w ∧ w ≤ 10000) (ha : 1 ≤ a ∧ a ≤ 4096) (hb : 1 ≤ b ∧ b ≤ 4096) (W : World) : Calls Try.prog 111 #[.int .i64 w, .int .i64 a, .int .i64 b] W (Same (i64 (cloV w a b)) W) := by
  have HA := Lib.hid (fun W => idist a w (by omega) (by omega) W)
  have HB := Lib.hid (fun W => idist b w (by omega) (by omega) W)
  by_cases h1 : dist w a < dist w b
  · have HV : Hid (cloV w a b = a) := Lib.hid (by unfold cloV; rw [if_pos h1])
    generalize dist w a = x at HA h1
    generalize dist w b = y at HB h1
    go_enter Try.func111, Try.ntmps111
    go_wp2_with (first | (go_at_call 122; (with_reducible refine (HA.out _).mono ?_); rintro e w' ⟨rfl, rfl⟩) | (go_at_call 122; (with_reducible refine (HB.out _).mono ?_); rintro e w' ⟨rfl, rfl⟩) | go_in)
    go_ret
    exact ⟨ret_int HV.out.symm, rfl⟩
  by_cases h2 : dist w b < dist w a
  · have HV : Hid (cloV w a b = b) := Lib.hid (by unfold cloV; rw [if_neg h1, if_pos h2])
    generalize dist w a = x at HA h1 h2
    generalize dist w b = y at HB h1 h2
    go_enter Try.func111, Try.ntmps111
    go_wp2_with (first | (go_at_call 122; (with_reducible refine (HA.out _).mono ?_); rintro e w' ⟨rfl, rfl⟩) | (go_at_call 122; (with_reducible refine (HB.out _).mono ?_); rintro e w' ⟨rfl, rfl⟩) | go_in)
    go_ret
    exact ⟨ret_int HV.out.symm, rfl⟩
  · have HV : Hid (cloV w a b = min a b) := Lib.hid (by unfold cloV; rw [if_neg h1, if_neg h2])
    generalize dist w a = x at HA h1 h2
    generalize dist w b = y at HB h1 h2
    by_cases h3 : b < a
    all_goals
      go_enter Try.func111, Try.ntmps111
      go_wp2_with (first | (go_at_call 122; (with_reducible refine (HA.out _).mono ?_); rintro e w' ⟨rfl, rfl⟩) | (go_at_call 122; (with_reducible refine (HB.out _).mono ?_); rintro e w' ⟨rfl, rfl⟩) | go_in)
      go_ret
      exact ⟨ret_int (by rw [HV.out]; omega), rfl⟩
theorem leaves_in : ∀ (f e : Nat) (l : Int), 1 ≤ l → l ≤ 4 ^ e → f + e ≤ 6 → ∀ t ∈ leaves f l, 1 ≤ t ∧ t ≤ 4096
  | 0, e, l, h1, h2, h3 => fun t ht => by
      simp [leaves] at ht
      have h4 : (4 : Int) ^ e ≤ 4 ^ 6 := by exact_mod_cast Nat.pow_le_pow_right (show 0 < 4 by decide) (show e ≤ 6 by omega)
      have h5 : (4 : Int) ^ 6 = 4096 := by decide
      omega
  | f + 1, e, l, h1, h2, h3 => fun t ht => by
      have h4 : (4 : Int) ^ (e + 1) = 4 ^ e * 4 := Int.pow_succ _ _
      simp only [leaves, List.mem_append] at ht
      rcases ht with (h | h) | h
      · exact leaves_in f (e + 1) (l * 2) (by omega) (by omega) (by omega) t h
      · exact leaves_in f (e + 1) (l * 3) (by omega) (by omega) (by omega) t h
      · exact leaves_in f (e + 1) (l * 4) (by omega) (by omega) (by omega) t h
theorem cl_in (w : Int) (f e : Nat) (l : Int) (h1 : 1 ≤ l) (h2 : l ≤ 4 ^ e) (h3 : f + e ≤ 6) : 1 ≤ cl w f l ∧ cl w f l ≤ 4096 := leaves_in f e l h1 h2 h3 _ (cl_best w f l).1
def stC (w : Int) (f : Nat) (l : Int) : Nat → Int
  | 0 => cl w f (l * 2)
  | i + 1 => cloV w (stC w f l i) (cl w f (l * ((i : Int) + 3)))
theorem clo_in (w : Int) {a b : Int} (ha : 1 ≤ a ∧ a ≤ 4096) (hb : 1 ≤ b ∧ b ≤ 4096) : 1 ≤ cloV w a b ∧ cloV w a b ≤ 4096 := by
  unfold cloV
  split
  · exact ha
  · split
    · exact hb
    · omega
set_option maxHeartbeats 4000000 in
theorem iclosestFrom (w : Int) (hw : 1 ≤ w ∧ w ≤ 10000) : ∀ (f e : Nat) (l : Int), 1 ≤ l → l ≤ 4 ^ e → f + e ≤ 6 → ∀ W : World, Calls Try.prog 78 #[.int .i64 w, .int .i64 (f : Int), .int .i64 l] W (Val (i64 (cl w f l)) W) := by
  intro f
  induction f with
  | zero =>
    intro e l h1 h2 h3 W
    go_enter Try.func78, Try.ntmps78
    go_wp2
    go_ret
    exact Val.mk' rfl (by (repeat (first | exact In.refl _ | assumption | apply In.alloc | apply In.drewN | apply In.drew | (refine In.step ?_ (by assumption)))))
  | succ f ih =>
    intro e l h1 h2 h3 W
    have IH := Lib.hid ih
    clear ih
    have h4 : (4 : Int) ^ (e + 1) = 4 ^ e * 4 := Int.pow_succ _ _
    have hl : l ≤ 1024 := by
      have h5 : (4 : Int) ^ e ≤ 4 ^ 5 := by exact_mod_cast Nat.pow_le_pow_right (show 0 < 4 by decide) (show e ≤ 5 by omega)
      have h6 : (4 : Int) ^ 5 = 1024 := by decide
      omega
    have HIH := Lib.hid (fun (j : Int) (h : 2 ≤ j ∧ j ≤ 4) => IH.out (e + 1) (l * j) (by have := Int.mul_le_mul_of_nonneg_left h.1 (show 0 ≤ l by omega); omega) (by rw [h4]; exact Int.le_trans (Int.mul_le_mul_of_nonneg_left h.2 (by omega)) (Int.mul_le_mul_of_nonneg_right h2 (by decide))) (by omega))
    have HCI := Lib.hid (fun (j : Int) (h : 2 ≤ j ∧ j ≤ 4) => cl_in w f (e + 1) (l * j) (by have := Int.mul_le_mul_of_nonneg_left h.1 (show 0 ≤ l by omega); omega) (by rw [h4]; exact Int.le_trans (Int.mul_le_mul_of_nonneg_left h.2 (by omega)) (Int.mul_le_mul_of_nonneg_right h2 (by decide))) (by omega))
    have HV : Hid (cl w (f + 1) l = stC w f l 2) := Lib.hid (by simp [stC, cl])
    have HST : Hid (∀ i, i ≤ 2 → 1 ≤ stC w f l i ∧ stC w f l i ≤ 4096) := Lib.hid (fun i => by
      induction i with
      | zero => intro _; exact HCI.out 2 (by omega)
      | succ i ih => intro hi; exact clo_in w (ih (by omega)) (HCI.out ((i : Int) + 3) (by omega)))
    clear h4 h2 IH
    obtain ⟨g, hg⟩ : ∃ g : Nat, g = f + 1 := ⟨_, rfl⟩
    have hg1 : IntKind.i64.wrap ((g : Int) - 1) = (f : Int) := by rw [IntWalk.i64_in _ (by omega)]; omega
    have hg2 : wrap64 ((g : Int) - 1) = (f : Int) := by rw [w64 (by omega)]; omega
    have hg3 : (g : Int) - 1 = (f : Int) := by omega
    have hg0 : 0 < g := by omega
    have hf6 : g ≤ 6 := by omega
    rw [← hg] at HV ⊢
    clear hg h3
    go_enter Try.func78, Try.ntmps78
    go_wp2_with fail
    refine (ilayers2 _ 2 l 2 _ (by omega) (by omega) (readsLit _ _ #[.int .i64 l, .int .i64 2] [l, 2] _ rfl rfl)).mono ?_
    rintro _ _ ⟨rfl, rfl⟩
    go_wp2_with fail
    refine (HIH.out 2 (by omega) _).mono ?_
    rintro _ w1 ⟨rfl, hb1⟩
    have i1 : In W.heap.size W w1 := In.step (by (repeat (first | exact In.refl _ | assumption | apply In.alloc | apply In.drewN | apply In.drew | (refine In.step ?_ (by assumption))))) hb1
    clear hb1
    go_wp2
    go_loopw [7, 8] (fun x j wr => ∃ i : Nat, i ≤ 2 ∧ j = .int .i64 ((i : Int) + 3) ∧ x = .int .i64 (stC w f l i) ∧ In W.heap.size W wr) (fun _ j _ => 5 - (intOf j).toNat)
    case atStart => exact ⟨0, by omega, rfl, rfl, i1⟩
    case round =>
      clear i1
      obtain ⟨i, hi, rfl, rfl, hiw⟩ := hrel
      by_cases hlt : i < 2
      · have HS : Hid (stC w f l (i + 1) = cloV w (stC w f l i) (cl w f (l * ((i : Int) + 3)))) := Lib.hid rfl
        have b1 := HST.out i hi
        have b2 := HCI.out ((i : Int) + 3) (by omega)
        have HC := Lib.hid (HIH.out ((i : Int) + 3) (by omega))
        generalize stC w f l i = x at HS b1 ⊢
        go_wp2_with fail
        refine (ilayers2 _ 2 l ((i : Int) + 3) _ (by omega) (by omega) (readsLit _ _ #[.int .i64 l, .int .i64 ((i : Int) + 3)] [l, (i : Int) + 3] _ rfl rfl)).mono ?_
        rintro _ _ ⟨rfl, rfl⟩
        go_wp2_with fail
        refine (HC.out _).mono ?_
        rintro _ w2 ⟨rfl, hb2⟩
        have i2 : In W.heap.size W w2 := In.step (by (repeat (first | exact In.refl _ | assumption | apply In.alloc | apply In.drewN | apply In.drew | (refine In.step ?_ (by assumption))))) hb2
        clear hb2 HC
        generalize cl w f (l * ((i : Int) + 3)) = y at HS b2 ⊢
        go_wp2_with fail
        refine (icloserOf w x y hw b1 b2 _).mono ?_
        rintro _ _ ⟨rfl, rfl⟩
        go_wp2
        go_roundw
        case rel => exact ⟨i + 1, by omega, by go_num, v_int HS.out.symm, i2⟩
        case measure => simp [intOf]; omega
      · obtain rfl : i = 2 := by omega
        go_wp2
        go_ret
        exact Val.mk' (v_int HV.out.symm) (by (repeat (first | exact In.refl _ | assumption | apply In.alloc | apply In.drewN | apply In.drew | (refine In.step ?_ (by assumption)))))
theorem iClosestLayers (w f : Int) (W : World) : Calls Try.prog 37 #[.int .i64 w, .int .i64 f] W (Val (i64 (closeV w f)) W) := by
  cases h1 : inB w 1 10000 <;> cases h2 : inB f 0 6
  case true.true =>
    obtain ⟨f1, f2⟩ := inB_tt h2
    obtain ⟨F, rfl⟩ : ∃ n : Nat, f = n := ⟨f.toNat, by omega⟩
    have HC := Lib.hid (iclosestFrom w (inB_tt h1) F 0 1 (by decide) (by decide) (by omega))
    have HV : Hid (closeV w F = cl w F 1) := Lib.hid (by simp [closeV, h1, h2])
    go_enter Try.func37, Try.ntmps37
    go_wp2_with (first | (go_at_call 66; refine (iIn _ _ _ _).mono ?_; rintro e w' ⟨rfl, rfl⟩) | (go_at_call 78; refine (HC.out _).mono ?_; rintro e w' ⟨rfl, hb⟩) | go_in | (go_end0; simp only []; go_at_K))
    go_ret
    exact Val.mk' (v_int HV.out.symm) (by (repeat (first | exact In.refl _ | assumption | apply In.alloc | apply In.drewN | apply In.drew | (refine In.step ?_ (by assumption)))))
  all_goals
    have HV : Hid (closeV w f = -1) := Lib.hid (by simp [closeV, h1, h2])
    go_enter Try.func37, Try.ntmps37
    go_wp2_with (first | (go_at_call 66; refine (iIn _ _ _ _).mono ?_; rintro e w' ⟨rfl, rfl⟩) | go_in | (go_end0; simp only []; go_at_K))
    go_ret
    exact Val.mk' (v_int HV.out.symm) (by (repeat (first | exact In.refl _ | assumption | apply In.alloc | apply In.drewN | apply In.drew | (refine In.step ?_ (by assumption)))))
end Go.Proofs.Ytgjbbidcpmglbaa
