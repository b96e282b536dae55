/- Chapter 8: OrderCost. -/
import Derived.Test.YtihimgddnheojaaC08
import Derived.Test.YtihimgddnheojaaIntR
import Derived.Test.YtihimgddnheojaaSum
import Derived.Test.YtihimgddnheojaaAll
namespace Go.Proofs.Ytihimgddnheojaa
open Go.ChangeShapes Go.WideShapes Go.ChangeAt Go.RowKit
set_option linter.unusedVariables false
set_option linter.unusedSimpArgs false

def hOk (hs : List Int) (i : Nat) : Bool := inB (hs.getD i 0) 0 350
def heatsB (n : Nat) (hs : List Int) : Bool := decide (n ≤ 8) && allOk (hOk hs) n
def seenB (os : List Int) : Nat → Int → Bool
  | 0, _ => false
  | k + 1, t => (os.getD k 0 == t) || seenB os k t
def ordOk (n : Nat) (os : List Int) (k : Nat) : Bool := inB (os.getD k 0) 0 ((n : Int) - 1) && !(seenB os k (os.getD k 0))
def pv (hs os : List Int) (s : Int) : Nat → Int
  | 0 => s
  | k + 1 => hs.getD (os.getD k 0).toNat 0
def cG (hs os : List Int) (s : Int) (k : Nat) : Int := heatV (pv hs os s k) (hs.getD (os.getD k 0).toNat 0)
def costV (n : Nat) (hs : List Int) (m : Nat) (os : List Int) (s : Int) : Int := if heatsB n hs && inB s 0 350 && decide (m = n) && allOk (ordOk n os) m then sumTo (cG hs os s) m else -1
theorem heats_f {n : Nat} {hs : List Int} (k : Nat) (hk : k < n) (h : hOk hs k = false) : heatsB n hs = false := by simp [heatsB, allOk_f _ _ k hk h]
theorem heats_n {n : Nat} {hs : List Int} (h : ∀ i, i < n → hOk hs i = true) : heatsB n hs = decide (n ≤ 8) := by simp [heatsB, allOk_t _ _ h]
theorem heats_at {n : Nat} {hs : List Int} (h : heatsB n hs = true) : n ≤ 8 ∧ ∀ i, i < n → 0 ≤ hs.getD i 0 ∧ hs.getD i 0 ≤ 350 := by
  simp only [heatsB, Bool.and_eq_true, decide_eq_true_eq] at h
  exact ⟨h.1, fun i hi => inB_tt (allOk_at _ _ h.2 i hi)⟩
theorem s08Ok (n : Int) (w : World) : Calls Try.prog 38 #[.int .i64 n] w (Same (.bool (inB n 0 350)) w) := by
  go_enter Try.func38, Try.ntmps38
  go_wp2_with (first | (go_at_call 40; refine (sIn _ _ _ _).mono ?_; rintro e w' ⟨rfl, rfl⟩) | (go_at_call 37; refine (iIn _ _ _ _).mono ?_; rintro e w' ⟨rfl, rfl⟩) | go_in | (go_end0; simp only []; go_at_K))
  go_ret
  exact ⟨rfl, rfl⟩
theorem iheatOk (n : Int) (w : World) : Calls Try.prog 29 #[.int .i64 n] w (Same (.bool (inB n 0 350)) w) := by
  go_enter Try.func29, Try.ntmps29
  go_wp2_with (first | (go_at_call 40; refine (sIn _ _ _ _).mono ?_; rintro e w' ⟨rfl, rfl⟩) | (go_at_call 37; refine (iIn _ _ _ _).mono ?_; rintro e w' ⟨rfl, rfl⟩) | go_in | (go_end0; simp only []; go_at_K))
  go_ret
  exact ⟨rfl, rfl⟩
set_option maxHeartbeats 1000000 in
theorem s08List (A : Option Addr) (n c : Nat) (hs : List Int) (s : Int) (w : World) (hn : n ≤ maxLen) (hx : ReadsI w A n hs) : Calls Try.prog 39 #[.slice A n c, .int .i64 s] w (Same (.bool (heatsB n hs && inB s 0 350)) w) := by
  unfold maxLen at hn
  go_enter Try.func39, Try.ntmps39
  go_wp2
  go_loop [5] (fun i => ∃ k : Nat, k ≤ n ∧ i = .int .i64 k ∧ (∀ i, i < k → hOk hs i = true)) (fun i => n - (intOf i).toNat)
  case atStart => exact ⟨0, Nat.zero_le _, rfl, fun i hi => absurd hi (Nat.not_lt_zero _)⟩
  case round =>
    obtain ⟨k, hk, rfl, ho⟩ := hrel
    have HO := Lib.hid ho
    clear ho
    by_cases hlt : k < n
    · obtain ⟨a, rfl, ha⟩ := hx.2 k hlt
      have HK : Hid (hOk hs k = inB (hs.getD k 0) 0 350) := Lib.hid rfl
      generalize hs.getD k 0 = x at ha HK
      cases h1 : inB x 0 350
      · have HF : Hid ((heatsB n hs && inB s 0 350) = false) := Lib.hid (by rw [heats_f k hlt (by rw [HK.out]; exact h1)]; rfl)
        go_wp2_with (first | (go_at_call 40; refine (sIn _ _ _ _).mono ?_; rintro e w' ⟨rfl, rfl⟩) | (go_at_call 37; refine (iIn _ _ _ _).mono ?_; rintro e w' ⟨rfl, rfl⟩) | (go_at_call 38; refine (s08Ok _ _).mono ?_; rintro e w' ⟨rfl, rfl⟩) | go_in | (go_end0; simp only []; go_at_K))
        go_ret
        exact ⟨ret_bool HF.out.symm, rfl⟩
      · have HT : Hid (hOk hs k = true) := Lib.hid (by rw [HK.out]; exact h1)
        go_wp2_with (first | (go_at_call 40; refine (sIn _ _ _ _).mono ?_; rintro e w' ⟨rfl, rfl⟩) | (go_at_call 37; refine (iIn _ _ _ _).mono ?_; rintro e w' ⟨rfl, rfl⟩) | (go_at_call 38; refine (s08Ok _ _).mono ?_; rintro e w' ⟨rfl, rfl⟩) | go_in | (go_end0; simp only []; go_at_K))
        go_round
        case rel => exact ⟨k + 1, by omega, by go_num, fun i hi => by
            by_cases e : i = k
            · subst e; exact HT.out
            · exact HO.out i (by omega)⟩
        case measure => simp [intOf]; omega
    · obtain rfl : k = n := by omega
      have HV : Hid ((heatsB k hs && inB s 0 350) = (decide (k ≤ 8) && inB s 0 350)) := Lib.hid (by rw [heats_n HO.out])
      by_cases h8 : k ≤ 8
      · cases h2 : inB s 0 350
        all_goals
          go_wp2_with (first | (go_at_call 40; refine (sIn _ _ _ _).mono ?_; rintro e w' ⟨rfl, rfl⟩) | (go_at_call 37; refine (iIn _ _ _ _).mono ?_; rintro e w' ⟨rfl, rfl⟩) | (go_at_call 38; refine (s08Ok _ _).mono ?_; rintro e w' ⟨rfl, rfl⟩) | go_in | (go_end0; simp only []; go_at_K))
          go_ret
          exact ⟨ret_bool (by rw [HV.out, h2]; simp [h8]), rfl⟩
      · have h8' : 8 < k := by omega
        go_wp2_with (first | (go_at_call 40; refine (sIn _ _ _ _).mono ?_; rintro e w' ⟨rfl, rfl⟩) | (go_at_call 37; refine (iIn _ _ _ _).mono ?_; rintro e w' ⟨rfl, rfl⟩) | (go_at_call 38; refine (s08Ok _ _).mono ?_; rintro e w' ⟨rfl, rfl⟩) | go_in | (go_end0; simp only []; go_at_K))
        go_ret
        exact ⟨ret_bool (by rw [HV.out]; simp [h8]), rfl⟩
theorem heats_all (n : Nat) (hs : List Int) : heatsB n hs = (decide (n ≤ 8) && allIn hs 0 350 n) := rfl
theorem iheatsOk (A : Option Addr) (n c : Nat) (hs : List Int) (w : World) (hn : n ≤ maxLen) (hx : ReadsI w A n hs) : Calls Try.prog 28 #[.slice A n c] w (Same (.bool (heatsB n hs)) w) := by
  have HX := Lib.hid hx
  have HN := Lib.hid hn
  unfold maxLen at hn
  clear hx
  by_cases h8 : n ≤ 8
  · go_enter Try.func28, Try.ntmps28
    go_wp2_with fail
    refine (iAll A n c hs 0 350 _ HN.out HX.out).mono ?_
    rintro _ _ ⟨rfl, rfl⟩
    go_wp2
    go_ret
    exact ⟨ret_bool (by rw [heats_all]; simp [h8]), rfl⟩
  · have HF : Hid (heatsB n hs = false) := Lib.hid (by simp [heatsB, h8])
    have h8' : 8 < n := by omega
    go_enter Try.func28, Try.ntmps28
    go_wp2
    go_ret
    exact ⟨ret_bool HF.out.symm, rfl⟩
theorem infoB : (Try.prog.info? 4).map (fun i => (i.zero, i.size, i.bytes)) = some (some (.bool false), 1, 1) := by kernel_rfl
/-- block g says which of the first k of os are t -/
def Seen (w : World) (g n : Nat) (os : List Int) (k : Nat) : Prop := ∃ cur : Array Value, Blk w g 4 cur ∧ cur.size = n ∧ ∀ t : Nat, t < n → cur[t]? = some (.bool (seenB os k t))
theorem Seen.set_ {w : World} {g n : Nat} {os : List Int} {k : Nat} (h : Seen w g n os k) (t : Nat) (ht : os.getD k 0 = t) (hn : t < n) : Seen (w.setCell ⟨g, t, none⟩ (.bool true)) g n os (k + 1) := by
  obtain ⟨cur, hb, hs, hc⟩ := h
  refine ⟨_, hb.set_ t _, by simp; exact hs, fun u hu => ?_⟩
  rw [Array.getElem?_setIfInBounds]
  by_cases e : t = u
  · subst e
    rw [if_pos rfl, if_pos (by omega)]
    show some (Value.bool true) = some (.bool ((os.getD k 0 == (t : Int)) || seenB os k t))
    rw [ht]; simp
  · rw [if_neg e, hc u hu]
    have : (os.getD k 0 == (u : Int)) = false := by rw [ht]; simp; omega
    show some (Value.bool (seenB os k u)) = some (.bool ((os.getD k 0 == (u : Int)) || seenB os k u))
    rw [this]; rfl
theorem Seen.cell {w : World} {g n : Nat} {os : List Int} {k : Nat} (h : Seen w g n os k) (t : Nat) (ht : t < n) : w.cell? ⟨g, t, none⟩ = some (.bool (seenB os k t)) := by
  obtain ⟨cur, hb, hs, hc⟩ := h
  rw [hb.cell]; exact hc t ht
theorem Seen.free {w : World} {g n : Nat} {os : List Int} {k : Nat} (h : Seen w g n os k) (t : Nat) : w.frozen? ⟨g, t, none⟩ = false := by
  obtain ⟨cur, hb, _⟩ := h
  exact hb.frozen t
theorem seen_made {w w1 : World} {n : Nat} (os : List Int) (hown : w1.ownsRow w.heap.size 4 1 (.slice (some ⟨w.heap.size, 0, none⟩) n n) n (List.replicate n (Value.bool false))) : Seen w1 w.heap.size n os 0 := by
  rcases hown.2 with ⟨h, _⟩ | ⟨g, cap, cur, h, hg, hh, hnc, hcp, hcs, htake⟩
  · cases h
  · injection h with h1 h2 h3
    injection h1 with h1
    injection h1 with h1
    subst h1 h3
    refine ⟨cur, hh, by simpa using hcs, fun t ht => ?_⟩
    have h5 := congrArg (·[t]?) htake
    simp [ht] at h5
    simpa [seenB] using h5
set_option maxHeartbeats 4000000 in
theorem sOrderCost (A : Option Addr) (n c : Nat) (hs : List Int) (B : Option Addr) (m d : Nat) (os : List Int) (s : Int) (w : World) (hn : n ≤ maxLen) (hx : ReadsI w A n hs) (hm : m ≤ maxLen) (hy : ReadsI w B m os) :
    Calls Try.prog 18 #[.slice A n c, .slice B m d, .int .i64 s] w (Val (i64 (costV n hs m os s)) w) := by
  obtain ⟨i0, hi0, hz0, hz1, hz2⟩ := info_parts infoB
  cases h1 : (heatsB n hs && inB s 0 350)
  · have HV : Hid (costV n hs m os s = -1) := Lib.hid (by simp only [costV, h1]; rfl)
    unfold maxLen at hm hn
    go_enter Try.func18, Try.ntmps18
    go_wp2_with fail
    refine (s08List A n c hs s _ (by unfold maxLen; omega) hx).mono ?_
    rintro _ _ ⟨rfl, rfl⟩
    rw [h1]
    go_wp2
    go_ret
    exact Val.mk' (v_int HV.out.symm) (by (repeat (first | exact In.refl _ | assumption | apply In.alloc | apply In.drewN | apply In.drew | (refine In.step ?_ (by assumption)))))
  have H1 := Lib.hid h1
  simp only [Bool.and_eq_true] at h1
  obtain ⟨hn8, hat⟩ := heats_at h1.1
  obtain ⟨s1, s2⟩ := inB_tt h1.2
  have HAT := Lib.hid hat
  clear hat h1
  by_cases h2 : m = n
  rotate_left
  · have HV : Hid (costV n hs m os s = -1) := Lib.hid (by simp [costV, h2])
    have h2' : ((m : Int) == (n : Int)) = false := by simp; omega
    have h2'' : ((m : Int) != (n : Int)) = true := by simp; omega
    unfold maxLen at hm
    go_enter Try.func18, Try.ntmps18
    go_wp2_with fail
    refine (s08List A n c hs s _ hn hx).mono ?_
    rintro _ _ ⟨rfl, rfl⟩
    rw [H1.out]
    go_wp2
    go_ret
    exact Val.mk' (v_int HV.out.symm) (by (repeat (first | exact In.refl _ | assumption | apply In.alloc | apply In.drewN | apply In.drew | (refine In.step ?_ (by assumption)))))
  subst h2
  have HVT : Hid (∀ v, v = sumTo (cG hs os s) m → allOk (ordOk m os) m = true → costV m hs m os s = v) := Lib.hid (fun v hv h => by
    have h1 := H1.out
    rw [hv]; unfold costV; rw [h1, h]; simp)
  have HVF : Hid (∀ k, k < m → ordOk m os k = false → costV m hs m os s = -1) := Lib.hid (fun k hk h => by
    unfold costV; rw [allOk_f _ _ k hk h]; simp)
  go_enter Try.func18, Try.ntmps18
  go_wp2_with fail
  refine (s08List A m c hs s _ hn hx).mono ?_
  rintro _ _ ⟨rfl, rfl⟩
  rw [H1.out]
  go_wp2_with (at_make; refine wpList_make_full _ rfl (.tmp 23) (.tmp 23) 50 rfl w.heap.size 4 i0 (.bool false) 1 Try.underlying50 hi0 hz0 hz1 .i64 .i64 (m : Int) (m : Int) m rfl rfl rfl rfl ?h2 ?h3 ?h4 ?_)
  case h2 => rw [hz2]; omega
  case h3 => unfold maxLen; omega
  case h4 => exact Nat.le_refl _
  intro w1 hown0 hgrow0
  have hb0 : Below w.heap.size w w1 := (Below.refl _ _).grown hgrow0 (Nat.le_refl _) (fun j hj => by cases hj)
  have hse : Seen w1 w.heap.size m os 0 := seen_made os (by rw [toList_madeCells_one] at hown0; exact hown0)
  have i1 : In w.heap.size w w1 := ⟨hb0, hb0.size⟩
  clear hgrow0 hown0 hb0
  go_wp2
  go_loopw [8, 9, 10] (fun q p i wr => ∃ k : Nat, k ≤ m ∧ i = .int .i64 k ∧ q = .int .i64 (sumTo (cG hs os s) k) ∧ p = .int .i64 (pv hs os s k) ∧ (∀ i, i < k → ordOk m os i = true) ∧ Seen wr w.heap.size m os k ∧ In w.heap.size w wr) (fun _ _ i _ => m - (intOf i).toNat)
  case atStart => exact ⟨0, Nat.zero_le _, rfl, rfl, rfl, fun i hi => absurd hi (Nat.not_lt_zero _), hse, i1⟩
  case round =>
    clear hse i1
    obtain ⟨k, hk, rfl, rfl, rfl, ho, hse, hi⟩ := hrel
    have HO := Lib.hid ho
    clear ho
    obtain ⟨q1, q2⟩ := sumTo_bd (fun i => cG hs os s i + 1) 701 k fun i hi => by have := heat_in (pv hs os s i) (hs.getD (os.getD i 0).toNat 0); simp only [cG]; omega
    by_cases hlt : k < m
    · obtain ⟨a, rfl, ca⟩ := (hy.below hi.below (Nat.le_refl _)).2 k hlt
      have HK : Hid (ordOk m os k = (inB (os.getD k 0) 0 ((m : Int) - 1) && !(seenB os k (os.getD k 0)))) := Lib.hid rfl
      have HU := Lib.hid (sumTo_succ (cG hs os s) k)
      have HG : Hid (cG hs os s k = heatV (pv hs os s k) (hs.getD (os.getD k 0).toNat 0)) := Lib.hid rfl
      have HP : Hid (pv hs os s (k + 1) = hs.getD (os.getD k 0).toNat 0) := Lib.hid rfl
      have HSET := Lib.hid (fun t ht hn => Seen.set_ hse t ht hn)
      generalize hoo : os.getD k 0 = x at ca HK HG HP HSET
      have HX := Lib.hid hoo
      clear hoo
      cases hI : inB x 0 ((m : Int) - 1)
      · have HF := Lib.hid (HVF.out k hlt (by rw [HK.out, hI]; rfl))
        go_wp2_with (first | (go_at_call 40; refine (sIn _ _ _ _).mono ?_; rintro e w' ⟨rfl, rfl⟩) | (go_at_call 37; refine (iIn _ _ _ _).mono ?_; rintro e w' ⟨rfl, rfl⟩) | go_in | (go_end0; simp only []; go_at_K))
        go_ret
        exact Val.mk' (v_int HF.out.symm) (by (repeat (first | exact In.refl _ | assumption | apply In.alloc | apply In.drewN | apply In.drew | (refine In.step ?_ (by assumption)))))
      obtain ⟨x1, x2⟩ := inB_tt hI
      obtain ⟨t, rfl⟩ : ∃ t : Nat, x = t := ⟨x.toNat, by omega⟩
      have ct := hse.cell t (by omega)
      have ft := hse.free t
      cases hB : seenB os k t
      · have HT : Hid (ordOk m os k = true) := Lib.hid (by rw [HK.out, hI, hB]; rfl)
        rw [hB] at ct
        obtain ⟨b, rfl, cb⟩ := (hx.below hi.below (Nat.le_refl _)).2 t (by omega)
        have hst := HSET.out t rfl (by omega)
        have hi2 : In w.heap.size w (wr.setCell ⟨w.heap.size, t, none⟩ (.bool true)) := hi.set_ (Nat.le_refl _) _
        have ca2 := (hy.below hi2.below (Nat.le_refl _)).2 k hlt
        have cb2 := (hx.below hi2.below (Nat.le_refl _)).2 t (by omega)
        obtain ⟨a2, ea, ca2⟩ := ca2
        obtain ⟨b2, eb, cb2⟩ := cb2
        injection ea with ea
        injection eb with eb
        subst ea eb
        rw [HX.out] at ca2
        have HG2 : Hid (cG hs os s k = heatV (pv hs os s k) (hs.getD t 0)) := Lib.hid (by rw [HG.out]; simp)
        have HP2 : Hid (pv hs os s (k + 1) = hs.getD t 0) := Lib.hid (by rw [HP.out]; simp)
        have hhv := heat_in (pv hs os s k) (hs.getD t 0)
        generalize hs.getD t 0 = y at cb cb2 HG2 HP2 hhv
        have hsb : -100000 ≤ sumTo (cG hs os s) k ∧ sumTo (cG hs os s) k ≤ 100000 := by
          have h9 : sumTo (fun i => cG hs os s i + 1) k = sumTo (cG hs os s) k + k := by
            clear q1 q2
            have : ∀ j, sumTo (fun i => cG hs os s i + 1) j = sumTo (cG hs os s) j + j := fun j => by
              induction j with
              | zero => rfl
              | succ j ih => rw [sumTo_succ, sumTo_succ, ih]; omega
            exact this k
          omega
        clear hse
        go_wp2_with (first | (go_at_call 40; refine (sIn _ _ _ _).mono ?_; rintro e w' ⟨rfl, rfl⟩) | (go_at_call 37; refine (iIn _ _ _ _).mono ?_; rintro e w' ⟨rfl, rfl⟩) | (go_at_call 17; refine (sHeatCost _ _ _).mono ?_; rintro e w' ⟨rfl, rfl⟩) | go_in | (go_end0; simp only []; go_at_K))
        go_roundw
        case rel => exact ⟨k + 1, by omega, by go_num, v_int (by rw [HU.out, HG2.out]), v_int HP2.out.symm, fun i hi => by
            by_cases e : i = k
            · subst e; exact HT.out
            · exact HO.out i (by omega), hst, hi2⟩
        case measure => simp [intOf]; omega
      · have HF := Lib.hid (HVF.out k hlt (by rw [HK.out, hI, hB]; rfl))
        rw [hB] at ct
        go_wp2_with (first | (go_at_call 40; refine (sIn _ _ _ _).mono ?_; rintro e w' ⟨rfl, rfl⟩) | (go_at_call 37; refine (iIn _ _ _ _).mono ?_; rintro e w' ⟨rfl, rfl⟩) | go_in | (go_end0; simp only []; go_at_K))
        go_ret
        exact Val.mk' (v_int HF.out.symm) (by (repeat (first | exact In.refl _ | assumption | apply In.alloc | apply In.drewN | apply In.drew | (refine In.step ?_ (by assumption)))))
    · obtain rfl : k = m := by omega
      go_wp2
      go_ret
      exact Val.mk' (v_int (HVT.out _ rfl (allOk_t _ _ HO.out)).symm) (by (repeat (first | exact In.refl _ | assumption | apply In.alloc | apply In.drewN | apply In.drew | (refine In.step ?_ (by assumption)))))
set_option maxHeartbeats 4000000 in
theorem iisOrder (B : Option Addr) (m d n : Nat) (os : List Int) (w : World) (hm : m ≤ maxLen) (hn : n ≤ 8) (hy : ReadsI w B m os) :
    Calls Try.prog 33 #[.slice B m d, .int .i64 (n : Int)] w (Val (.bool (decide (m = n) && allOk (ordOk n os) m)) w) := by
  obtain ⟨i0, hi0, hz0, hz1, hz2⟩ := info_parts infoB
  by_cases h2 : m = n
  rotate_left
  · have HV : Hid ((decide (m = n) && allOk (ordOk n os) m) = false) := Lib.hid (by simp [h2])
    have h2' : ((m : Int) == (n : Int)) = false := by simp; omega
    have h2'' : ((m : Int) != (n : Int)) = true := by simp; omega
    unfold maxLen at hm
    go_enter Try.func33, Try.ntmps33
    go_wp2
    go_ret
    exact Val.mk' (v_bool HV.out.symm) (by (repeat (first | exact In.refl _ | assumption | apply In.alloc | apply In.drewN | apply In.drew | (refine In.step ?_ (by assumption)))))
  subst h2
  have HVT : Hid (allOk (ordOk m os) m = true → (decide (m = m) && allOk (ordOk m os) m) = true) := Lib.hid (fun h => by rw [h]; simp)
  have HVF : Hid (∀ k, k < m → ordOk m os k = false → (decide (m = m) && allOk (ordOk m os) m) = false) := Lib.hid (fun k hk h => by
    rw [allOk_f _ _ k hk h]; simp)
  generalize (decide (m = m) && allOk (ordOk m os) m) = ANS at HVT HVF ⊢
  go_enter Try.func33, Try.ntmps33
  go_wp2_with (at_make; refine wpList_make_full _ rfl (.tmp 12) (.tmp 12) 50 rfl w.heap.size 4 i0 (.bool false) 1 Try.underlying50 hi0 hz0 hz1 .i64 .i64 (m : Int) (m : Int) m rfl rfl rfl rfl ?h2 ?h3 ?h4 ?_)
  case h2 => rw [hz2]; omega
  case h3 => unfold maxLen; omega
  case h4 => exact Nat.le_refl _
  intro w1 hown0 hgrow0
  have hb0 : Below w.heap.size w w1 := (Below.refl _ _).grown hgrow0 (Nat.le_refl _) (fun j hj => by cases hj)
  have hse : Seen w1 w.heap.size m os 0 := seen_made os (by rw [toList_madeCells_one] at hown0; exact hown0)
  have i1 : In w.heap.size w w1 := ⟨hb0, hb0.size⟩
  clear hgrow0 hown0 hb0
  go_wp2
  go_loopw [16] (fun i wr => ∃ k : Nat, k ≤ m ∧ i = .int .i64 k ∧ (∀ i, i < k → ordOk m os i = true) ∧ Seen wr w.heap.size m os k ∧ In w.heap.size w wr) (fun i _ => m - (intOf i).toNat)
  case atStart => exact ⟨0, Nat.zero_le _, rfl, fun i hi => absurd hi (Nat.not_lt_zero _), hse, i1⟩
  case round =>
    clear hse i1
    obtain ⟨k, hk, rfl, ho, hse, hi⟩ := hrel
    have HO := Lib.hid ho
    clear ho
    by_cases hlt : k < m
    · obtain ⟨a, rfl, ca⟩ := (hy.below hi.below (Nat.le_refl _)).2 k hlt
      have HK : Hid (ordOk m os k = (inB (os.getD k 0) 0 ((m : Int) - 1) && !(seenB os k (os.getD k 0)))) := Lib.hid rfl
      have HSET := Lib.hid (fun t ht hn => Seen.set_ hse t ht hn)
      generalize hoo : os.getD k 0 = x at ca HK HSET
      have HX := Lib.hid hoo
      clear hoo
      cases hI : inB x 0 ((m : Int) - 1)
      · have HF := Lib.hid (HVF.out k hlt (by rw [HK.out, hI]; rfl))
        go_wp2_with (first | (go_at_call 40; refine (sIn _ _ _ _).mono ?_; rintro e w' ⟨rfl, rfl⟩) | (go_at_call 37; refine (iIn _ _ _ _).mono ?_; rintro e w' ⟨rfl, rfl⟩) | go_in | (go_end0; simp only []; go_at_K))
        go_ret
        exact Val.mk' (v_bool HF.out.symm) (by (repeat (first | exact In.refl _ | assumption | apply In.alloc | apply In.drewN | apply In.drew | (refine In.step ?_ (by assumption)))))
      obtain ⟨x1, x2⟩ := inB_tt hI
      obtain ⟨t, rfl⟩ : ∃ t : Nat, x = t := ⟨x.toNat, by omega⟩
      have ct := hse.cell t (by omega)
      have ft := hse.free t
      cases hB : seenB os k t
      · have HT : Hid (ordOk m os k = true) := Lib.hid (by rw [HK.out, hI, hB]; rfl)
        rw [hB] at ct
        have hst := HSET.out t rfl (by omega)
        have hi2 : In w.heap.size w (wr.setCell ⟨w.heap.size, t, none⟩ (.bool true)) := hi.set_ (Nat.le_refl _) _
        clear hse
        go_wp2_with (first | (go_at_call 40; refine (sIn _ _ _ _).mono ?_; rintro e w' ⟨rfl, rfl⟩) | (go_at_call 37; refine (iIn _ _ _ _).mono ?_; rintro e w' ⟨rfl, rfl⟩) | go_in | (go_end0; simp only []; go_at_K))
        go_roundw
        case rel => exact ⟨k + 1, by omega, by go_num, fun i hi => by
            by_cases e : i = k
            · subst e; exact HT.out
            · exact HO.out i (by omega), hst, hi2⟩
        case measure => simp [intOf]; omega
      · have HF := Lib.hid (HVF.out k hlt (by rw [HK.out, hI, hB]; rfl))
        rw [hB] at ct
        go_wp2_with (first | (go_at_call 40; refine (sIn _ _ _ _).mono ?_; rintro e w' ⟨rfl, rfl⟩) | (go_at_call 37; refine (iIn _ _ _ _).mono ?_; rintro e w' ⟨rfl, rfl⟩) | go_in | (go_end0; simp only []; go_at_K))
        go_ret
        exact Val.mk' (v_bool HF.out.symm) (by (repeat (first | exact In.refl _ | assumption | apply In.alloc | apply In.drewN | apply In.drew | (refine In.step ?_ (by assumption)))))
    · obtain rfl : k = m := by omega
      go_wp2
      go_ret
      exact Val.mk' (v_bool (HVT.out (allOk_t _ _ HO.out)).symm) (by (repeat (first | exact In.refl _ | assumption | apply In.alloc | apply In.drewN | apply In.drew | (refine In.step ?_ (by assumption)))))
theorem cost_bd (hs os : List Int) (s : Int) (k : Nat) : -(k : Int) ≤ sumTo (cG hs os s) k ∧ sumTo (cG hs os s) k ≤ 700 * k := by
  induction k with
  | zero => simp [sumTo]
  | succ k ih =>
    have := heat_in (pv hs os s k) (hs.getD (os.getD k 0).toNat 0)
    rw [sumTo_succ]
    simp only [cG] at ih ⊢
    omega
set_option maxHeartbeats 4000000 in
theorem iOrderCost (A : Option Addr) (n c : Nat) (hs : List Int) (B : Option Addr) (m d : Nat) (os : List Int) (s : Int) (w : World) (hn : n ≤ maxLen) (hx : ReadsI w A n hs) (hm : m ≤ maxLen) (hy : ReadsI w B m os) :
    Calls Try.prog 13 #[.slice A n c, .slice B m d, .int .i64 s] w (Val (i64 (costV n hs m os s)) w) := by
  cases h1 : heatsB n hs
  · have HV : Hid (costV n hs m os s = -1) := Lib.hid (by simp [costV, h1])
    go_enter Try.func13, Try.ntmps13
    go_wp2_with fail
    refine (iheatsOk A n c hs _ hn hx).mono ?_
    rintro _ _ ⟨rfl, rfl⟩
    rw [h1]
    go_wp2
    go_ret
    exact Val.mk' (v_int HV.out.symm) (by (repeat (first | exact In.refl _ | assumption | apply In.alloc | apply In.drewN | apply In.drew | (refine In.step ?_ (by assumption)))))
  cases h2 : inB s 0 350
  · have HV : Hid (costV n hs m os s = -1) := Lib.hid (by simp [costV, h2])
    go_enter Try.func13, Try.ntmps13
    go_wp2_with fail
    refine (iheatsOk A n c hs _ hn hx).mono ?_
    rintro _ _ ⟨rfl, rfl⟩
    rw [h1]
    go_wp2_with (first | (go_at_call 40; refine (sIn _ _ _ _).mono ?_; rintro e w' ⟨rfl, rfl⟩) | (go_at_call 37; refine (iIn _ _ _ _).mono ?_; rintro e w' ⟨rfl, rfl⟩) | (go_at_call 29; refine (iheatOk _ _).mono ?_; rintro e w' ⟨rfl, rfl⟩) | go_in | (go_end0; simp only []; go_at_K))
    go_ret
    exact Val.mk' (v_int HV.out.symm) (by (repeat (first | exact In.refl _ | assumption | apply In.alloc | apply In.drewN | apply In.drew | (refine In.step ?_ (by assumption)))))
  obtain ⟨hn8, hat⟩ := heats_at h1
  have HAT := Lib.hid hat
  clear hat
  cases h3 : (decide (m = n) && allOk (ordOk n os) m)
  · have HV : Hid (costV n hs m os s = -1) := Lib.hid (by
      unfold costV
      rw [show (heatsB n hs && inB s 0 350 && decide (m = n) && allOk (ordOk n os) m) = (heatsB n hs && inB s 0 350 && (decide (m = n) && allOk (ordOk n os) m)) from Bool.and_assoc _ _ _, h3]; simp)
    go_enter Try.func13, Try.ntmps13
    go_wp2_with fail
    refine (iheatsOk A n c hs _ hn hx).mono ?_
    rintro _ _ ⟨rfl, rfl⟩
    rw [h1]
    go_wp2_with (first | (go_at_call 40; refine (sIn _ _ _ _).mono ?_; rintro e w' ⟨rfl, rfl⟩) | (go_at_call 37; refine (iIn _ _ _ _).mono ?_; rintro e w' ⟨rfl, rfl⟩) | (go_at_call 29; refine (iheatOk _ _).mono ?_; rintro e w' ⟨rfl, rfl⟩) | (go_at_call 33; refine (iisOrder B m d n os _ hm hn8 hy).mono ?_; rintro _ w1 ⟨rfl, hb1⟩) | go_in | (go_end0; simp only []; go_at_K))
    go_ret
    exact Val.mk' (v_int HV.out.symm) (by (repeat (first | exact In.refl _ | assumption | apply In.alloc | apply In.drewN | apply In.drew | (refine In.step ?_ (by assumption)))))
  have h3' := h3
  simp only [Bool.and_eq_true, decide_eq_true_eq] at h3'
  obtain ⟨hmn, hall⟩ := h3'
  subst hmn
  have HV : Hid (costV m hs m os s = sumTo (cG hs os s) m) := Lib.hid (by unfold costV; rw [h1, h2, hall]; simp)
  have HORD := Lib.hid (fun k hk => by have := allOk_at _ _ hall k hk; simp only [ordOk, Bool.and_eq_true] at this; exact inB_tt this.1 : ∀ k, k < m → 0 ≤ os.getD k 0 ∧ os.getD k 0 ≤ (m : Int) - 1)
  go_enter Try.func13, Try.ntmps13
  go_wp2_with fail
  refine (iheatsOk A m c hs _ hn hx).mono ?_
  rintro _ _ ⟨rfl, rfl⟩
  rw [h1]
  go_wp2_with (first | (go_at_call 40; refine (sIn _ _ _ _).mono ?_; rintro e w' ⟨rfl, rfl⟩) | (go_at_call 37; refine (iIn _ _ _ _).mono ?_; rintro e w' ⟨rfl, rfl⟩) | (go_at_call 29; refine (iheatOk _ _).mono ?_; rintro e w' ⟨rfl, rfl⟩) | (go_at_call 33; refine (iisOrder B m d m os _ hm hn8 hy).mono ?_; rintro _ w1 ⟨rfl, hb1⟩) | go_in | (go_end0; simp only []; go_at_K))
  have i1 : In w.heap.size w w1 := In.step (by (repeat (first | exact In.refl _ | assumption | apply In.alloc | apply In.drewN | apply In.drew | (refine In.step ?_ (by assumption))))) hb1
  clear hb1 h1 h2 h3 hall
  go_loopw [2, 7, 27] (fun p q i wr => ∃ k : Nat, k ≤ m ∧ i = .int .i64 k ∧ q = .int .i64 (sumTo (cG hs os s) k) ∧ p = .int .i64 (pv hs os s k) ∧ In w.heap.size w wr) (fun _ _ i _ => m - (intOf i).toNat)
  case atStart => exact ⟨0, Nat.zero_le _, rfl, rfl, rfl, i1⟩
  case round =>
    clear i1
    obtain ⟨k, hk, rfl, rfl, rfl, hi⟩ := hrel
    obtain ⟨q1, q2⟩ := cost_bd hs os s k
    by_cases hlt : k < m
    · obtain ⟨a, rfl, ca⟩ := (hy.below hi.below (Nat.le_refl _)).2 k hlt
      have HU := Lib.hid (sumTo_succ (cG hs os s) k)
      have HG : Hid (cG hs os s k = heatV (pv hs os s k) (hs.getD (os.getD k 0).toNat 0)) := Lib.hid rfl
      have HP : Hid (pv hs os s (k + 1) = hs.getD (os.getD k 0).toNat 0) := Lib.hid rfl
      obtain ⟨x1, x2⟩ := HORD.out k hlt
      generalize os.getD k 0 = x at ca HG HP x1 x2
      obtain ⟨t, rfl⟩ : ∃ t : Nat, x = t := ⟨x.toNat, by omega⟩
      obtain ⟨b, rfl, cb⟩ := (hx.below hi.below (Nat.le_refl _)).2 t (by omega)
      have HG2 : Hid (cG hs os s k = heatV (pv hs os s k) (hs.getD t 0)) := Lib.hid (by rw [HG.out]; simp)
      have HP2 : Hid (pv hs os s (k + 1) = hs.getD t 0) := Lib.hid (by rw [HP.out]; simp)
      have hhv := heat_in (pv hs os s k) (hs.getD t 0)
      generalize hs.getD t 0 = y at cb HG2 HP2 hhv
      go_wp2_with (first | (go_at_call 40; refine (sIn _ _ _ _).mono ?_; rintro e w' ⟨rfl, rfl⟩) | (go_at_call 37; refine (iIn _ _ _ _).mono ?_; rintro e w' ⟨rfl, rfl⟩) | (go_at_call 15; refine (iHeatCost _ _ _).mono ?_; rintro e w' ⟨rfl, rfl⟩) | go_in | (go_end0; simp only []; go_at_K))
      go_roundw
      case rel => exact ⟨k + 1, by omega, by go_num, v_int (by rw [HU.out, HG2.out]), v_int HP2.out.symm, hi⟩
      case measure => simp [intOf]; omega
    · obtain rfl : k = m := by omega
      go_wp2
      go_ret
      exact Val.mk' (v_int HV.out.symm) (by (repeat (first | exact In.refl _ | assumption | apply In.alloc | apply In.drewN | apply In.drew | (refine In.step ?_ (by assumption)))))
end Go.Proofs.Ytihimgddnheojaa
