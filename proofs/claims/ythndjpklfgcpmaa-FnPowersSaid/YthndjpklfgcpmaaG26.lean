/- Chapter 26: BestStart. -/
import Derived.Test.YthndjpklfgcpmaaF26
import Derived.Test.YthndjpklfgcpmaaIx
import Derived.Test.YthndjpklfgcpmaaSl
import Derived.Test.YthndjpklfgcpmaaSums
import Derived.Test.YthndjpklfgcpmaaOwnM
namespace Go.Proofs.Ythndjpklfgcpmaa
open Go.ChangeShapes Go.WideShapes Go.ChangeAt Go.RowKit
set_option linter.unusedVariables false
set_option linter.unusedSimpArgs false
set_option maxHeartbeats 2000000

theorem sl2 (a : Option Addr) (n c lo hi : Nat) (h1 : lo ≤ hi) (h2 : hi ≤ c) (w : World) : (Instr.slice 22 (.slice a n c) (some (.int .i64 (lo : Int))) (some (.int .i64 (hi : Int))) none).run Try.prog w = .ok (.slice (loA a c lo) (hi - lo) (c - lo)) w := by
  have h3 : ¬ hi < lo := by omega
  have h4 : ¬ c < hi := by omega
  simp [Instr.slice, Instr.sliceBounds, Instr.sliceBound, go_sem, Try.underlying22, loA, h1, h2]
set_option maxRecDepth 20000 in
theorem iMax (A : Option Addr) (n c : Nat) (xs : List Int) (w : World) (hn : n ≤ maxLen) (h0 : 0 < n) (hx : ReadsI w A n xs) : Calls Try.prog 72 #[.slice A n c] w (Same (i64 (lmx (gI xs) (n - 1))) w) := by
  unfold maxLen at hn
  obtain ⟨a, rfl, ha⟩ := hx.2 0 h0
  have HS := Lib.hid (lmx_succ (gI xs))
  have H0 : Hid (lmx (gI xs) 0 = xs.getD 0 0) := Lib.hid rfl
  have ha' : w.cell? a = some (.int .i64 (xs.getD 0 0)) := by simpa [Addr.add] using ha
  obtain ⟨x0, hx0⟩ : ∃ x, xs.getD 0 0 = x := ⟨_, rfl⟩
  rw [hx0] at ha ha' H0
  clear hx0
  have hn1 : ¬ (n : Int) < 1 := by omega
  go_enter Try.func72, Try.ntmps72
  go_wp2
  go_loop [3, 4] (fun v i => ∃ k : Nat, k < n ∧ i = .int .i64 ((k + 1 : Nat) : Int) ∧ v = .int .i64 (lmx (gI xs) k)) (fun _ i => n - (intOf i).toNat)
  case atStart => exact ⟨0, h0, rfl, by rw [H0.out]⟩
  case round =>
    obtain ⟨k, hk, rfl, rfl⟩ := hrel
    clear hn1 ha ha'
    obtain ⟨j, hj⟩ : ∃ j : Nat, k + 1 = j := ⟨_, rfl⟩
    have HJ := Lib.hid hj
    rw [hj]
    have HS1 := Lib.hid (HS.out k)
    by_cases hlt : j < n
    · obtain ⟨a2, e, hc⟩ := hx.2 j hlt
      obtain rfl := Option.some.inj e
      rw [hj] at HS1
      have HG : Hid (gI xs j = xs.getD j 0) := Lib.hid rfl
      obtain ⟨y, hy⟩ : ∃ y, xs.getD j 0 = y := ⟨_, rfl⟩
      rw [hy] at hc HG
      obtain ⟨x, hx1⟩ : ∃ x, lmx (gI xs) k = x := ⟨_, rfl⟩
      rw [hx1] at HS1 ⊢
      clear hx1 hy hj hk
      by_cases hxy : x < y
      all_goals
        go_wp2
        go_round
        case rel => exact ⟨j, hlt, by go_num, v_int (by rw [HS1.out, HG.out]; omega)⟩
        case measure => simp [intOf]; omega
    · have HK : Hid (k = n - 1) := Lib.hid (by omega)
      clear hj
      go_wp2
      go_ret
      exact ⟨by rw [HK.out]; rfl, rfl⟩
set_option maxRecDepth 20000 in
theorem iMin (A : Option Addr) (n c : Nat) (xs : List Int) (w : World) (hn : n ≤ maxLen) (h0 : 0 < n) (hx : ReadsI w A n xs) : Calls Try.prog 74 #[.slice A n c] w (Same (i64 (lmn (gI xs) (n - 1))) w) := by
  unfold maxLen at hn
  obtain ⟨a, rfl, ha⟩ := hx.2 0 h0
  have HS := Lib.hid (lmn_succ (gI xs))
  have H0 : Hid (lmn (gI xs) 0 = xs.getD 0 0) := Lib.hid rfl
  have ha' : w.cell? a = some (.int .i64 (xs.getD 0 0)) := by simpa [Addr.add] using ha
  obtain ⟨x0, hx0⟩ : ∃ x, xs.getD 0 0 = x := ⟨_, rfl⟩
  rw [hx0] at ha ha' H0
  clear hx0
  have hn1 : ¬ (n : Int) < 1 := by omega
  go_enter Try.func74, Try.ntmps74
  go_wp2
  go_loop [3, 4] (fun v i => ∃ k : Nat, k < n ∧ i = .int .i64 ((k + 1 : Nat) : Int) ∧ v = .int .i64 (lmn (gI xs) k)) (fun _ i => n - (intOf i).toNat)
  case atStart => exact ⟨0, h0, rfl, by rw [H0.out]⟩
  case round =>
    obtain ⟨k, hk, rfl, rfl⟩ := hrel
    clear hn1 ha ha'
    obtain ⟨j, hj⟩ : ∃ j : Nat, k + 1 = j := ⟨_, rfl⟩
    have HJ := Lib.hid hj
    rw [hj]
    have HS1 := Lib.hid (HS.out k)
    by_cases hlt : j < n
    · obtain ⟨a2, e, hc⟩ := hx.2 j hlt
      obtain rfl := Option.some.inj e
      rw [hj] at HS1
      have HG : Hid (gI xs j = xs.getD j 0) := Lib.hid rfl
      obtain ⟨y, hy⟩ : ∃ y, xs.getD j 0 = y := ⟨_, rfl⟩
      rw [hy] at hc HG
      obtain ⟨x, hx1⟩ : ∃ x, lmn (gI xs) k = x := ⟨_, rfl⟩
      rw [hx1] at HS1 ⊢
      clear hx1 hy hj hk
      by_cases hxy : y < x
      all_goals
        go_wp2
        go_round
        case rel => exact ⟨j, hlt, by go_num, v_int (by rw [HS1.out, HG.out]; omega)⟩
        case measure => simp [intOf]; omega
    · have HK : Hid (k = n - 1) := Lib.hid (by omega)
      clear hj
      go_wp2
      go_ret
      exact ⟨by rw [HK.out]; rfl, rfl⟩
theorem own_cap9 {w : World} {base n c size : Nat} {e : TypeId} {A : Option Addr} {xs : List Value} (h : w.ownsRow base e size (.slice A n c) n xs) : n ≤ c := by
  rcases h.2 with ⟨h1, h2⟩ | ⟨g, cap, cur, hv, hg, hh, hnc, _⟩
  · omega
  · injection hv with _ _ h3; omega
def gbst (g : Nat → Int) (k : Nat) : Int := if k = 0 then -1 else (amin g k : Nat)
def glst (g : Nat → Int) (k : Nat) : Int := if k = 0 then 0 else g (amin g k)
theorem gbst_0 (g : Nat → Int) : gbst g 0 = -1 ∧ glst g 0 = 0 := ⟨rfl, rfl⟩
theorem gbst_1 (g : Nat → Int) : gbst g 1 = 0 ∧ glst g 1 = g 0 := by
  have : amin g 1 = 0 := by have := amin_lt g 1 (by omega); omega
  constructor
  · unfold gbst; rw [if_neg (by omega), this]; rfl
  · unfold glst; rw [if_neg (by omega), this]
theorem gbst_s (g : Nat → Int) (k : Nat) (h : 0 < k) : 0 ≤ gbst g k ∧ gbst g k < k ∧ gbst g (k + 1) = (if g k < glst g k then (k : Int) else gbst g k) ∧ glst g (k + 1) = (if g k < glst g k then g k else glst g k) := by
  have h1 := amin_lt g k h
  have h2 := amin_succ g k
  have h3 : glst g k = g (amin g k) := if_neg (by omega)
  have h4 : gbst g k = (amin g k : Nat) := if_neg (by omega)
  refine ⟨by omega, by omega, ?_, ?_⟩
  · rw [h3, h4]; unfold gbst; rw [if_neg (by omega), h2]; split <;> rfl
  · rw [h3]; unfold glst; rw [if_neg (by omega), h2]; split <;> rfl
theorem idx_amin (g : Nat → Int) (L : Nat) : idxOf (fL g (L + 1)) (lmn (gI (fL g (L + 1))) L) (L + 1) = (amin g (L + 1) : Nat) := by
  have hl := amin_lt g (L + 1) (by omega)
  have e : lmn (gI (fL g (L + 1))) L = g (amin g (L + 1)) := by
    obtain ⟨i, hi, he⟩ := lmn_ex (gI (fL g (L + 1))) L
    have h1 := lmn_le (gI (fL g (L + 1))) L (amin g (L + 1)) (by omega)
    have h2 := amin_le g (L + 1) i (by omega)
    unfold gI at h1 he ⊢
    rw [fL_at _ _ _ (by omega)] at h1 he
    omega
  refine idxOf_at hl (fun i hi => ?_) ?_
  · rw [e, fL_at _ _ _ (by omega)]
    have := amax_first (fun i => - g i) (L + 1) i hi
    unfold amin
    omega
  · rw [e, fL_at _ _ _ hl]
theorem start_no {n : Nat} {xs : List MachineR} {m W : Int} (h : startB n xs m W = false) : startV n xs m W = -1 := by unfold startV; rw [h]; rfl
end Go.Proofs.Ythndjpklfgcpmaa
