/- Chapter 11: CountFoldings. -/
import Derived.Test.YtgjbbidcpmglbaaIn
import Derived.Test.YtgjbbidcpmglbaaIntR
import Derived.Test.YtgjbbidcpmglbaaSum
import Derived.Test.YtgjbbidcpmglbaaQuiet
import Derived.BigRegion
import Derived.RegionTactic
import Derived.BigQuiet
import Derived.Deep.QuietTactic
namespace Go.Proofs.Ytgjbbidcpmglbaa
open Go.ChangeShapes Go.WideShapes Go.ChangeAt Go.RowKit
set_option linter.unusedVariables false
set_option linter.unusedSimpArgs false

def cf (n : Nat) : Nat := if h : n ≤ 1 then n else (if n % 2 = 0 then cf (n / 2) else 0) + (if n % 3 = 0 then cf (n / 3) else 0) + (if n % 4 = 0 then cf (n / 4) else 0)
termination_by n
decreasing_by all_goals omega
theorem cf_le (n : Nat) : cf n ≤ n * n := by
  induction n using Nat.strongRecOn with
  | _ n ih =>
    rw [cf]
    split
    · rcases Nat.eq_zero_or_pos n with h | h
      · subst h; simp
      · obtain rfl : n = 1 := by omega
        simp
    · have h2 := ih (n / 2) (by omega)
      have h3 := ih (n / 3) (by omega)
      have h4 := ih (n / 4) (by omega)
      have sq : ∀ a c : Nat, a * c ≤ n → a * a * (c * c) ≤ n * n := fun a c h => by
        have := Nat.mul_le_mul h h
        rw [Nat.mul_mul_mul_comm] at this
        exact this
      have e2 := sq (n / 2) 2 (by omega)
      have e3 := sq (n / 3) 3 (by omega)
      have e4 := sq (n / 4) 4 (by omega)
      generalize n / 2 * (n / 2) = x2 at h2 e2
      generalize n / 3 * (n / 3) = x3 at h3 e3
      generalize n / 4 * (n / 4) = x4 at h4 e4
      generalize n * n = x at e2 e3 e4 ⊢
      split <;> split <;> split <;> omega
/-- what one fold adds -/
def cfF (n f : Nat) : Nat := if n % f = 0 then cf (n / f) else 0
/-- what the folds from 2 to below f add -/
def cfS (n : Nat) : Nat → Nat
  | 0 => 0
  | j + 1 => cfS n j + cfF n (j + 2)
theorem cf_sum {n : Nat} (h : 2 ≤ n) : cf n = cfS n 3 := by
  rw [cf, dif_neg (by omega)]
  simp [cfS, cfF]
theorem cfF_le {n f : Nat} (hn : n ≤ 10000) (hf : 2 ≤ f) : cfF n f ≤ 100000000 := by
  unfold cfF
  split
  · refine Nat.le_trans (cf_le _) ?_
    have : n / f ≤ 10000 := Nat.le_trans (Nat.div_le_self _ _) hn
    exact Nat.mul_le_mul this this
  · omega
theorem cfS_le {n : Nat} (hn : n ≤ 10000) : ∀ j, cfS n j ≤ 100000000 * j
  | 0 => by simp [cfS]
  | j + 1 => by
      have := cfS_le hn j
      have := cfF_le hn (show 2 ≤ j + 2 by omega)
      simp only [cfS]
      omega
def foldsV (l : Int) : Int := if inB l 1 10000 then (cf l.toNat : Int) else -1
set_option maxHeartbeats 2000000 in
theorem ifoldingsOf (n : Nat) (h1 : 1 ≤ n) (hn : n ≤ 10000) : ∀ w : World, Calls Try.prog 77 #[.int .i64 (n : Int)] w (Same (.int .i64 (cf n : Int)) w) := by
  induction n using Nat.strongRecOn with
  | _ n ih =>
    intro w
    have IH := Lib.hid ih
    clear ih
    by_cases e : n = 1
    · have e' : (n : Int) = 1 := by omega
      have HV : Hid ((cf n : Int) = 1) := Lib.hid (by rw [e, cf]; rfl)
      clear e
      go_enter Try.func77, Try.ntmps77
      go_wp2
      go_ret
      exact ⟨ret_int HV.out.symm, rfl⟩
    have e' : ¬ (n : Int) = 1 := by omega
    have e2 : ((n : Int) == 1) = false := by simp; omega
    have HV : Hid ((cf n : Int) = (cfS n 3 : Int)) := Lib.hid (by rw [cf_sum (by omega)])
    go_enter Try.func77, Try.ntmps77
    go_wp2
    go_loop [3, 4] (fun s f => ∃ j : Nat, 2 ≤ j ∧ j ≤ 5 ∧ f = .int .i64 (j : Int) ∧ s = .int .i64 (cfS n (j - 2) : Int)) (fun _ f => 5 - (intOf f).toNat)
    case atStart => exact ⟨2, by omega, by omega, rfl, rfl⟩
    case round =>
      obtain ⟨f, hf, hj, rfl, rfl⟩ := hrel
      have b1 := cfS_le hn (f - 2)
      by_cases hlt : f ≤ 4
      · have HU : Hid (cfS n (f + 1 - 2) = cfS n (f - 2) + cfF n f) := Lib.hid (by
          obtain ⟨g, rfl⟩ : ∃ g, f = g + 2 := ⟨f - 2, by omega⟩
          rfl)
        have b2 := cfF_le hn hf
        have hm : (n : Int) % (f : Int) = ((n % f : Nat) : Int) := by omega
        have hd : (n : Int) / (f : Int) = ((n / f : Nat) : Int) := by omega
        by_cases hr : n % f = 0
        · have HF : Hid (cfF n f = cf (n / f)) := Lib.hid (by unfold cfF; rw [if_pos hr])
          have HD1 : n / f < n := Nat.div_lt_self (by omega) (by omega)
          have HD2 : 1 ≤ n / f := by
            have := Nat.div_add_mod n f
            rcases Nat.eq_zero_or_pos (n / f) with h | h
            · rw [h, hr] at this; omega
            · exact h
          have HC := Lib.hid (IH.out (n / f) HD1 HD2 (by omega))
          rw [HF.out] at b2
          have hm2 : (n : Int) % (f : Int) = 0 := by omega
          clear hm hr
          generalize n / f = q at hd HF HD1 HD2 HC b2
          go_wp2_with (first | (go_at_call 77; refine (HC.out _).mono ?_; rintro _ _ ⟨rfl, rfl⟩) | go_in)
          go_round
          case rel => exact ⟨f + 1, by omega, by omega, by go_num, v_int (by rw [HU.out, HF.out]; (try rw [w64 (by omega)]); (try omega))⟩
          case measure => simp [intOf]; omega
        · have HF : Hid (cfF n f = 0) := Lib.hid (by unfold cfF; rw [if_neg hr])
          have hm2 : ¬ (n : Int) % (f : Int) = 0 := by omega
          clear hm hr hd
          go_wp2
          go_round
          case rel => exact ⟨f + 1, by omega, by omega, by go_num, v_int (by rw [HU.out, HF.out]; rfl)⟩
          case measure => simp [intOf]; omega
      · obtain rfl : f = 5 := by omega
        go_wp2
        go_ret
        exact ⟨ret_int HV.out.symm, rfl⟩
theorem iCountFoldings (l : Int) (w : World) : Calls Try.prog 36 #[.int .i64 l] w (Val (i64 (foldsV l)) w) := by
  cases h : inB l 1 10000
  · have HV : Hid (foldsV l = -1) := Lib.hid (by simp [foldsV, h])
    go_enter Try.func36, Try.ntmps36
    go_wp2_with (first | (go_at_call 66; refine (iIn _ _ _ _).mono ?_; rintro e w' ⟨rfl, rfl⟩) | go_in | (go_end0; simp only []; go_at_K))
    go_ret
    exact Val.mk' (v_int HV.out.symm) (by (repeat (first | exact In.refl _ | assumption | apply In.alloc | apply In.drewN | apply In.drew | (refine In.step ?_ (by assumption)))))
  obtain ⟨b1, b2⟩ := inB_tt h
  have HV : Hid (foldsV l = (cf l.toNat : Int)) := Lib.hid (by simp [foldsV, h])
  obtain ⟨n, rfl⟩ : ∃ n : Nat, l = n := ⟨l.toNat, by omega⟩
  simp only [Int.toNat_natCast] at HV
  have HC := Lib.hid (ifoldingsOf n (by omega) (by omega))
  go_enter Try.func36, Try.ntmps36
  go_wp2_with fail
  refine (iIn _ _ _ _).mono ?_
  rintro _ _ ⟨rfl, rfl⟩
  rw [h]
  go_wp2_with (first | (go_at_call 77; refine (HC.out _).mono ?_; rintro _ _ ⟨rfl, rfl⟩) | go_in)
  go_ret
  exact Val.mk' (v_int HV.out.symm) (by (repeat (first | exact In.refl _ | assumption | apply In.alloc | apply In.drewN | apply In.drew | (refine In.step ?_ (by assumption)))))
theorem infoN : (Try.prog.info? 3).map (fun i => (i.zero, i.size, i.bytes)) = some (some (.int .i64 0), 1, 8) := by kernel_rfl
/-- block g holds n numbers: f of their places -/
def Ways (w : World) (g n : Nat) (f : Nat → Int) : Prop := ∃ cur : Array Value, Blk w g 3 cur ∧ cur.size = n ∧ ∀ t : Nat, t < n → cur[t]? = some (.int .i64 (f t))
theorem Ways.set_ {w : World} {g n : Nat} {f : Nat → Int} (h : Ways w g n f) (t : Nat) (v : Int) (f' : Nat → Int) (ht : f' t = v) (hf : ∀ u, u ≠ t → f' u = f u) (hn : t < n) : Ways (w.setCell ⟨g, t, none⟩ (.int .i64 v)) g n f' := by
  obtain ⟨cur, hb, hs, hc⟩ := h
  refine ⟨_, hb.set_ t _, by simp; exact hs, fun u hu => ?_⟩
  rw [Array.getElem?_setIfInBounds]
  by_cases e : t = u
  · subst e
    rw [if_pos rfl, if_pos (by omega), ht]
  · rw [if_neg e, hc u hu, hf u (fun h => e h.symm)]
theorem Ways.congr {w : World} {g n : Nat} {f f' : Nat → Int} (h : Ways w g n f) (hf : ∀ u, u < n → f' u = f u) : Ways w g n f' := by
  obtain ⟨cur, hb, hs, hc⟩ := h
  exact ⟨cur, hb, hs, fun u hu => by rw [hc u hu, hf u hu]⟩
theorem Ways.cell {w : World} {g n : Nat} {f : Nat → Int} (h : Ways w g n f) (t : Nat) (ht : t < n) : w.cell? ⟨g, t, none⟩ = some (.int .i64 (f t)) := by
  obtain ⟨cur, hb, hs, hc⟩ := h
  rw [hb.cell]; exact hc t ht
theorem Ways.free {w : World} {g n : Nat} {f : Nat → Int} (h : Ways w g n f) (t : Nat) : w.frozen? ⟨g, t, none⟩ = false := by
  obtain ⟨cur, hb, _⟩ := h
  exact hb.frozen t
theorem Ways.drewN {w : World} {g n : Nat} {f : Nat → Int} (h : Ways w g n f) (q : Nat) : Ways (w.drewN q) g n f := by
  obtain ⟨cur, hb, hs, hc⟩ := h
  exact ⟨cur, hb.below (below_drewN (Below.refl _ w) q) hb.lt, hs, hc⟩
theorem Ways.drew {w : World} {g n : Nat} {f : Nat → Int} (h : Ways w g n f) : Ways w.drew g n f := by
  obtain ⟨cur, hb, hs, hc⟩ := h
  exact ⟨cur, hb.below (Below.refl _ w).drew hb.lt, hs, hc⟩
theorem ways_made {w w1 : World} {n : Nat} (hown : w1.ownsRow w.heap.size 3 1 (.slice (some ⟨w.heap.size, 0, none⟩) n n) n (List.replicate n (Value.int .i64 0))) : Ways w1 w.heap.size n (fun _ => 0) := by
  rcases hown.2 with ⟨h, _⟩ | ⟨g, cap, cur, h, hg, hh, hnc, hcp, hcs, htake⟩
  · cases h
  · injection h with h1 h2 h3
    injection h1 with h1
    injection h1 with h1
    subst h1 h3
    refine ⟨cur, hh, by simpa using hcs, fun t ht => ?_⟩
    have h5 := congrArg (·[t]?) htake
    simp [ht] at h5
    simpa using h5
def wayW (n : Nat) (u : Nat) : Int := if u < n then (cf u : Int) else 0
def wayV (n f : Nat) (u : Nat) : Int := if u < n then (cf u : Int) else if u = n then (cfS n (f - 2) : Int) else 0
end Go.Proofs.Ytgjbbidcpmglbaa
