/- Chapter 4: KeepForDays, both. -/
import Derived.Test.YtkaaebpoljnbnaaK04
namespace Go.Proofs.Ytkaaebpoljnbnaa
open Go.ChangeShapes Go.WideShapes Go.ChangeAt Go.RowKit
set_option linter.unusedVariables false
set_option linter.unusedSimpArgs false

theorem keepV_n {n : Nat} {ds : List Int} {t : Int} (h : 10 < n) : keepV n ds t = -1 := by unfold keepV; rw [if_neg (by omega)]
theorem keepV_t {n : Nat} {ds : List Int} {t : Int} (h : inB t 1 10 = false) : keepV n ds t = -1 := by unfold keepV; rw [h]; simp
theorem keepV_d {n : Nat} {ds : List Int} {t : Int} (k : Nat) (hk : k < n) (h : nOk ds k = false) : keepV n ds t = -1 := by unfold keepV; rw [allOk_f _ _ k hk h]; simp
theorem keepV_ok {n : Nat} {ds : List Int} {t : Int} (hn : n ≤ 10) (ht : inB t 1 10 = true) (hd : ∀ i, i < n → nOk ds i = true) : keepV n ds t = if valF ds t n n (keepG ds t n) = 1 then keepG ds t n else -1 := by unfold keepV; rw [if_pos ⟨hn, ht, allOk_t _ _ hd⟩]
theorem keepG_in (ds : List Int) (t : Int) (n : Nat) (ht : 1 ≤ t ∧ t ≤ 10) (hd : ∀ i, i < n → 0 ≤ ds.getD i 0 ∧ ds.getD i 0 ≤ 10000) : 0 ≤ keepG ds t n ∧ keepG ds t n ≤ 100000 := by
  unfold keepG
  split
  · omega
  · have := kF_in ds t n ht n (Nat.le_refl _) hd
    omega
/-- what the halving keeps: below low all is too little; high is enough, or the greatest -/
def lowD (ds : List Int) (t : Int) (n : Nat) (low high : Int) : Prop := 0 ≤ low ∧ low ≤ high ∧ high ≤ 100000 ∧ (high = 100000 ∨ 0 < valF ds t n n high) ∧ ∀ x, 0 ≤ x → x < low → valF ds t n n x = 0
theorem low_up {ds : List Int} {t : Int} {n : Nat} (ht : 1 ≤ t ∧ t ≤ 10) (hd : ∀ i, i < n → 0 ≤ ds.getD i 0 ∧ ds.getD i 0 ≤ 10000) {low high mid : Int} (h : lowD ds t n low high) (h1 : low ≤ mid) (h2 : mid < high) (hv : ¬ 0 < valF ds t n n mid) : lowD ds t n (mid + 1) high := by
  obtain ⟨a, b, c, e, f⟩ := h
  refine ⟨by omega, by omega, c, e, fun x x0 x1 => ?_⟩
  have hz : valF ds t n n mid = 0 := by have := val_in ds t n n mid; omega
  by_cases hn : n = 0
  · subst hn; simp [valF] at hz
  · have g1 := (val_zero ds t n ht hd n mid (Nat.le_refl _) (by omega) (.inr (by omega))).1 hz
    exact (val_zero ds t n ht hd n x (Nat.le_refl _) x0 (.inr (by omega))).2 (by omega)
theorem low_dn {ds : List Int} {t : Int} {n : Nat} {low high mid : Int} (h : lowD ds t n low high) (h1 : low ≤ mid) (h2 : mid < high) (hv : 0 < valF ds t n n mid) : lowD ds t n low mid := by
  obtain ⟨a, b, c, e, f⟩ := h
  exact ⟨a, h1, by omega, .inr hv, f⟩
theorem iKeepForDays (A : Option Addr) (n c : Nat) (ds : List Int) (t : Int) (w : World) (hm : n ≤ maxLen) (hx : ReadsI w A n ds) :
    Calls Try.prog 13 #[.slice A n c, .int .i64 t] w (Val (i64 (keepV n ds t)) w) := by
  by_cases hn : 10 < n
  · have HV : Hid (keepV n ds t = -1) := Lib.hid (keepV_n hn)
    go_enter Try.func13, Try.ntmps13
    go_wp2_with (first | (go_at_call 45; refine (sIn _ _ _ _).mono ?_; rintro e w' ⟨rfl, rfl⟩) | (go_at_call 40; refine (iIn _ _ _ _).mono ?_; rintro e w' ⟨rfl, rfl⟩) | go_in | (go_end0; simp only []; go_at_K))
    go_ret
    exact Val.mk' (v_int HV.out.symm) (by (repeat (first | exact In.refl _ | assumption | apply In.alloc | apply In.drewN | apply In.drew | (refine In.step ?_ (by assumption)))))
  cases h1 : inB t 1 10
  · have HV : Hid (keepV n ds t = -1) := Lib.hid (keepV_t h1)
    go_enter Try.func13, Try.ntmps13
    go_wp2_with (first | (go_at_call 45; refine (sIn _ _ _ _).mono ?_; rintro e w' ⟨rfl, rfl⟩) | (go_at_call 40; refine (iIn _ _ _ _).mono ?_; rintro e w' ⟨rfl, rfl⟩) | go_in | (go_end0; simp only []; go_at_K))
    go_ret
    exact Val.mk' (v_int HV.out.symm) (by (repeat (first | exact In.refl _ | assumption | apply In.alloc | apply In.drewN | apply In.drew | (refine In.step ?_ (by assumption)))))
  have H1 := Lib.hid h1
  have HT := inB_tt h1
  go_enter Try.func13, Try.ntmps13
  go_wp2_with (first | (go_at_call 45; refine (sIn _ _ _ _).mono ?_; rintro e w' ⟨rfl, rfl⟩) | (go_at_call 40; refine (iIn _ _ _ _).mono ?_; rintro e w' ⟨rfl, rfl⟩) | go_in | (go_end0; simp only []; go_at_K))
  clear h1
  go_loop [18] (fun i => ∃ k : Nat, k ≤ n ∧ i = .int .i64 k ∧ ∀ j, j < k → nOk ds j = true) (fun i => n - (intOf i).toNat)
  case atStart => exact ⟨0, Nat.zero_le _, rfl, fun j hj => by omega⟩
  case round =>
    obtain ⟨k, hk, rfl, ho⟩ := hrel
    have HO := Lib.hid ho
    clear ho
    by_cases hlt : k < n
    · obtain ⟨a, rfl, ca⟩ := hx.2 k hlt
      have HK : Hid (nOk ds k = inB (ds.getD k 0) 0 10000) := Lib.hid rfl
      generalize ds.getD k 0 = d at ca HK
      cases h2 : inB d 0 10000
      · have HV : Hid (keepV n ds t = -1) := Lib.hid (keepV_d k hlt (by rw [HK.out, h2]))
        go_wp2_with (first | (go_at_call 45; refine (sIn _ _ _ _).mono ?_; rintro e w' ⟨rfl, rfl⟩) | (go_at_call 40; refine (iIn _ _ _ _).mono ?_; rintro e w' ⟨rfl, rfl⟩) | go_in | (go_end0; simp only []; go_at_K))
        go_ret
        exact Val.mk' (v_int HV.out.symm) (by (repeat (first | exact In.refl _ | assumption | apply In.alloc | apply In.drewN | apply In.drew | (refine In.step ?_ (by assumption)))))
      · have HN : Hid (nOk ds k = true) := Lib.hid (by rw [HK.out, h2])
        go_wp2_with (first | (go_at_call 45; refine (sIn _ _ _ _).mono ?_; rintro e w' ⟨rfl, rfl⟩) | (go_at_call 40; refine (iIn _ _ _ _).mono ?_; rintro e w' ⟨rfl, rfl⟩) | go_in | (go_end0; simp only []; go_at_K))
        go_round
        case rel => exact ⟨k + 1, by omega, by go_num, fun j hj => by
            by_cases e : j = k
            · subst e; exact HN.out
            · exact HO.out j (by omega)⟩
        case measure => simp [intOf]; omega
    · obtain rfl : k = n := by omega
      have HV : Hid (keepV k ds t = if valF ds t k k (keepG ds t k) = 1 then keepG ds t k else -1) := Lib.hid (keepV_ok (by omega) H1.out HO.out)
      have HD : Hid (∀ i, i < k → 0 ≤ ds.getD i 0 ∧ ds.getD i 0 ≤ 10000) := Lib.hid (fun i hi => inB_tt (HO.out i hi))
      have GI := keepG_in ds t k HT HD.out
      clear hlt
      go_wp2_with fail
      refine (ileastKept A k c ds t w (by omega) HT HD.out hx).mono ?_
      rintro _ w2 ⟨rfl, rfl⟩
      generalize keepG ds t k = G at GI HV
      go_wp2_with fail
      refine (iLasts A k c ds t G w (by omega) HT GI HD.out hx).mono ?_
      rintro _ w2 ⟨rfl, hb2⟩
      by_cases hv : valF ds t k k G = 1
      · have HR : Hid (keepV k ds t = G) := Lib.hid (by rw [HV.out, if_pos hv])
        go_wp2
        go_ret
        exact Val.mk' (v_int HR.out.symm) (In.step (In.refl w) hb2)
      · have HR : Hid (keepV k ds t = -1) := Lib.hid (by rw [HV.out, if_neg hv])
        go_wp2
        go_ret
        exact Val.mk' (v_int HR.out.symm) (In.step (In.refl w) hb2)
end Go.Proofs.Ytkaaebpoljnbnaa
