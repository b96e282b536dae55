/- Chapter 8: OrderCost. -/
import Derived.Test.YtgjbbidcpmglbaaC08
import Derived.Test.YtgjbbidcpmglbaaIntR
import Derived.Test.YtgjbbidcpmglbaaSum
import Derived.Test.YtgjbbidcpmglbaaAll
namespace Go.Proofs.Ytgjbbidcpmglbaa
open Go.ChangeShapes Go.WideShapes Go.ChangeAt Go.RowKit
set_option linter.unusedVariables false
set_option linter.unusedSimpArgs false

def hOk (hs : List Int) (i : Nat) : Bool := inB (hs.getD i 0) 0 350
def heatsB (n : Nat) (hs : List Int) : Bool := decide (n ≤ 8) && allOk (hOk hs) n
def seenB (os : List Int) : Nat → Int → Bool
  | 0, _ => false
  | k + 1, t => (os.getD k 0 == t) || seenB os k t
def ordOk (n : Nat) (os : List Int) (k : Nat) : Bool := inB (os.getD k 0) 0 ((n : Int) - 1) && !(seenB os k (os.getD k 0))
def pv (hs os : List Int) (s : Int) : Nat → Int
  | 0 => s
  | k + 1 => hs.getD (os.getD k 0).toNat 0
def cG (hs os : List Int) (s : Int) (k : Nat) : Int := heatV (pv hs os s k) (hs.getD (os.getD k 0).toNat 0)
def costV (n : Nat) (hs : List Int) (m : Nat) (os : List Int) (s : Int) : Int := if heatsB n hs && inB s 0 350 && decide (m = n) && allOk (ordOk n os) m then sumTo (cG hs os s) m else -1
theorem heats_f {n : Nat} {hs : List Int} (k : Nat) (hk : k < n) (h : hOk hs k = false) : heatsB n hs = false := by simp [heatsB, allOk_f _ _ k hk h]
theorem heats_n {n : Nat} {hs : List Int} (h : ∀ i, i < n → hOk hs i = true) : heatsB n hs = decide (n ≤ 8) := by simp [heatsB, allOk_t _ _ h]
theorem heats_at {n : Nat} {hs : List Int} (h : heatsB n hs = true) : n ≤ 8 ∧ ∀ i, i < n → 0 ≤ hs.getD i 0 ∧ hs.getD i 0 ≤ 350 := by
  simp only [heatsB, Bool.and_eq_true, decide_eq_true_eq] at h
  exact ⟨h.1, fun i hi => inB_tt (allOk_at _ _ h.2 i hi)⟩
theorem heats_all (n : Nat) (hs : List Int) : heatsB n hs = (decide (n ≤ 8) && allIn hs 0 350 n) := rfl
theorem infoB : (Try.prog.info? 4).map (fun i => (i.zero, i.size, i.bytes)) = some (some (.bool false), 1, 1) := by kernel_rfl
/-- block g says which of the first k of os are t -/
def Seen (w : World) (g n : Nat) (os : List Int) (k : Nat) : Prop := ∃ cur : Array Value, Blk w g 4 cur ∧ cur.size = n ∧ ∀ t : Nat, t < n → cur[t]? = some (.bool (seenB os k t))
theorem Seen.set_ {w : World} {g n : Nat} {os : List Int} {k : Nat} (h : Seen w g n os k) (t : Nat) (ht : os.getD k 0 = t) (hn : t < n) : Seen (w.setCell ⟨g, t, none⟩ (.bool true)) g n os (k + 1) := by
  obtain ⟨cur, hb, hs, hc⟩ := h
  refine ⟨_, hb.set_ t _, by simp; exact hs, fun u hu => ?_⟩
  rw [Array.getElem?_setIfInBounds]
  by_cases e : t = u
  · subst e
    rw [if_pos rfl, if_pos (by omega)]
    show some (Value.bool true) = some (.bool ((os.getD k 0 == (t : Int)) || seenB os k t))
    rw [ht]; simp
  · rw [if_neg e, hc u hu]
    have : (os.getD k 0 == (u : Int)) = false := by rw [ht]; simp; omega
    show some (Value.bool (seenB os k u)) = some (.bool ((os.getD k 0 == (u : Int)) || seenB os k u))
    rw [this]; rfl
theorem Seen.cell {w : World} {g n : Nat} {os : List Int} {k : Nat} (h : Seen w g n os k) (t : Nat) (ht : t < n) : w.cell? ⟨g, t, none⟩ = some (.bool (seenB os k t)) := by
  obtain ⟨cur, hb, hs, hc⟩ := h
  rw [hb.cell]; exact hc t ht
theorem Seen.free {w : World} {g n : Nat} {os : List Int} {k : Nat} (h : Seen w g n os k) (t : Nat) : w.frozen? ⟨g, t, none⟩ = false := by
  obtain ⟨cur, hb, _⟩ := h
  exact hb.frozen t
theorem seen_made {w w1 : World} {n : Nat} (os : List Int) (hown : w1.ownsRow w.heap.size 4 1 (.slice (some ⟨w.heap.size, 0, none⟩) n n) n (List.replicate n (Value.bool false))) : Seen w1 w.heap.size n os 0 := by
  rcases hown.2 with ⟨h, _⟩ | ⟨g, cap, cur, h, hg, hh, hnc, hcp, hcs, htake⟩
  · cases h
  · injection h with h1 h2 h3
    injection h1 with h1
    injection h1 with h1
    subst h1 h3
    refine ⟨cur, hh, by simpa using hcs, fun t ht => ?_⟩
    have h5 := congrArg (·[t]?) htake
    simp [ht] at h5
    simpa [seenB] using h5
set_option maxHeartbeats 4000000 in
theorem iisOrder (B : Option Addr) (m d n : Nat) (os : List Int) (w : World) (hm : m ≤ maxLen) (hn : n ≤ 8) (hy : ReadsI w B m os) :
    Calls Try.prog 94 #[.slice B m d, .int .i64 (n : Int)] w (Val (.bool (decide (m = n) && allOk (ordOk n os) m)) w) := by
  obtain ⟨i0, hi0, hz0, hz1, hz2⟩ := info_parts infoB
  by_cases h2 : m = n
  rotate_left
  · have HV : Hid ((decide (m = n) && allOk (ordOk n os) m) = false) := Lib.hid (by simp [h2])
    have h2' : ((m : Int) == (n : Int)) = false := by simp; omega
    have h2'' : ((m : Int) != (n : Int)) = true := by simp; omega
    unfold maxLen at hm
    go_enter Try.func94, Try.ntmps94
    go_wp2
    go_ret
    exact Val.mk' (v_bool HV.out.symm) (by (repeat (first | exact In.refl _ | assumption | apply In.alloc | apply In.drewN | apply In.drew | (refine In.step ?_ (by assumption)))))
  subst h2
  have HVT : Hid (allOk (ordOk m os) m = true → (decide (m = m) && allOk (ordOk m os) m) = true) := Lib.hid (fun h => by rw [h]; simp)
  have HVF : Hid (∀ k, k < m → ordOk m os k = false → (decide (m = m) && allOk (ordOk m os) m) = false) := Lib.hid (fun k hk h => by
    rw [allOk_f _ _ k hk h]; simp)
  generalize (decide (m = m) && allOk (ordOk m os) m) = ANS at HVT HVF ⊢
  go_enter Try.func94, Try.ntmps94
  go_wp2_with (at_make; refine wpList_make_full _ rfl (.tmp 12) (.tmp 12) 136 rfl w.heap.size 4 i0 (.bool false) 1 Try.underlying136 hi0 hz0 hz1 .i64 .i64 (m : Int) (m : Int) m rfl rfl rfl rfl ?h2 ?h3 ?h4 ?_)
  case h2 => rw [hz2]; omega
  case h3 => unfold maxLen; omega
  case h4 => exact Nat.le_refl _
  intro w1 hown0 hgrow0
  have hb0 : Below w.heap.size w w1 := (Below.refl _ _).grown hgrow0 (Nat.le_refl _) (fun j hj => by cases hj)
  have hse : Seen w1 w.heap.size m os 0 := seen_made os (by rw [toList_madeCells_one] at hown0; exact hown0)
  have i1 : In w.heap.size w w1 := ⟨hb0, hb0.size⟩
  clear hgrow0 hown0 hb0
  go_wp2
  go_loopw [16] (fun i wr => ∃ k : Nat, k ≤ m ∧ i = .int .i64 k ∧ (∀ i, i < k → ordOk m os i = true) ∧ Seen wr w.heap.size m os k ∧ In w.heap.size w wr) (fun i _ => m - (intOf i).toNat)
  case atStart => exact ⟨0, Nat.zero_le _, rfl, fun i hi => absurd hi (Nat.not_lt_zero _), hse, i1⟩
  case round =>
    clear hse i1
    obtain ⟨k, hk, rfl, ho, hse, hi⟩ := hrel
    have HO := Lib.hid ho
    clear ho
    by_cases hlt : k < m
    · obtain ⟨a, rfl, ca⟩ := (hy.below hi.below (Nat.le_refl _)).2 k hlt
      have HK : Hid (ordOk m os k = (inB (os.getD k 0) 0 ((m : Int) - 1) && !(seenB os k (os.getD k 0)))) := Lib.hid rfl
      have HSET := Lib.hid (fun t ht hn => Seen.set_ hse t ht hn)
      generalize hoo : os.getD k 0 = x at ca HK HSET
      have HX := Lib.hid hoo
      clear hoo
      cases hI : inB x 0 ((m : Int) - 1)
      · have HF := Lib.hid (HVF.out k hlt (by rw [HK.out, hI]; rfl))
        go_wp2_with (first | (go_at_call 66; refine (iIn _ _ _ _).mono ?_; rintro e w' ⟨rfl, rfl⟩) | go_in | (go_end0; simp only []; go_at_K))
        go_ret
        exact Val.mk' (v_bool HF.out.symm) (by (repeat (first | exact In.refl _ | assumption | apply In.alloc | apply In.drewN | apply In.drew | (refine In.step ?_ (by assumption)))))
      obtain ⟨x1, x2⟩ := inB_tt hI
      obtain ⟨t, rfl⟩ : ∃ t : Nat, x = t := ⟨x.toNat, by omega⟩
      have ct := hse.cell t (by omega)
      have ft := hse.free t
      cases hB : seenB os k t
      · have HT : Hid (ordOk m os k = true) := Lib.hid (by rw [HK.out, hI, hB]; rfl)
        rw [hB] at ct
        have hst := HSET.out t rfl (by omega)
        have hi2 : In w.heap.size w (wr.setCell ⟨w.heap.size, t, none⟩ (.bool true)) := hi.set_ (Nat.le_refl _) _
        clear hse
        go_wp2_with (first | (go_at_call 66; refine (iIn _ _ _ _).mono ?_; rintro e w' ⟨rfl, rfl⟩) | go_in | (go_end0; simp only []; go_at_K))
        go_roundw
        case rel => exact ⟨k + 1, by omega, by go_num, fun i hi => by
            by_cases e : i = k
            · subst e; exact HT.out
            · exact HO.out i (by omega), hst, hi2⟩
        case measure => simp [intOf]; omega
      · have HF := Lib.hid (HVF.out k hlt (by rw [HK.out, hI, hB]; rfl))
        rw [hB] at ct
        go_wp2_with (first | (go_at_call 66; refine (iIn _ _ _ _).mono ?_; rintro e w' ⟨rfl, rfl⟩) | go_in | (go_end0; simp only []; go_at_K))
        go_ret
        exact Val.mk' (v_bool HF.out.symm) (by (repeat (first | exact In.refl _ | assumption | apply In.alloc | apply In.drewN | apply In.drew | (refine In.step ?_ (by assumption)))))
    · obtain rfl : k = m := by omega
      go_wp2
      go_ret
      exact Val.mk' (v_bool (HVT.out (allOk_t _ _ HO.out)).symm) (by (repeat (first | exact In.refl _ | assumption | apply In.alloc | apply In.drewN | apply In.drew | (refine In.step ?_ (by assumption)))))
theorem cost_bd (hs os : List Int) (s : Int) (k : Nat) : -(k : Int) ≤ sumTo (cG hs os s) k ∧ sumTo (cG hs os s) k ≤ 700 * k := by
  induction k with
  | zero => simp [sumTo]
  | succ k ih =>
    have := heat_in (pv hs os s k) (hs.getD (os.getD k 0).toNat 0)
    rw [sumTo_succ]
    simp only [cG] at ih ⊢
    omega
end Go.Proofs.Ytgjbbidcpmglbaa
