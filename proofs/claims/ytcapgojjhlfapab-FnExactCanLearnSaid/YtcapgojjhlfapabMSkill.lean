/- The marking of a slice of Skills of the call's own. -/
import Derived.Test.YtcapgojjhlfapabSSkill
import Derived.Test.YtcapgojjhlfapabOwnM
namespace Go.Proofs.Ytcapgojjhlfapab
open Go.ChangeShapes Go.WideShapes Go.ChangeAt Go.RowKit
set_option linter.unusedVariables false
set_option linter.unusedSimpArgs false
set_option maxHeartbeats 2000000

/-- as OwnSkill, every row's block lies below H -/
def OwnSkillH (w : World) (g n H : Nat) (xs : List SkillR) : Prop :=
  ∃ (cur : Array Value) (G : Nat → Nat), Blk w g 43 cur ∧ cur.size = n * 2 ∧ xs.length = n ∧ (∀ t, t < n → g < G t ∧ (xs.getD t ⟨[], 0⟩).f0.length ≤ 10000000 ∧ (cur[t * 2]? = some (.slice (some ⟨G t, 0, none⟩) (xs.getD t ⟨[], 0⟩).f0.length (xs.getD t ⟨[], 0⟩).f0.length) ∧ cur[t * 2 + 1]? = some (.int .i64 (xs.getD t ⟨[], 0⟩).f1)) ∧ OwnInt w (G t) (xs.getD t ⟨[], 0⟩).f0.length (xs.getD t ⟨[], 0⟩).f0) ∧ (∀ t u, t < u → u < n → G t < G u) ∧ ∀ t, t < n → G t < H
theorem OwnSkill.bound {w : World} {g n : Nat} {xs : List SkillR} (h : OwnSkill w g n xs) : OwnSkillH w g n w.heap.size xs := by
  obtain ⟨cur, G, hk, hs, hl, hc, hG⟩ := h
  exact ⟨cur, G, hk, hs, hl, hc, hG, fun t ht => (hc t ht).2.2.2.lt⟩
theorem OwnSkillH.own {w : World} {g n H : Nat} {xs : List SkillR} (h : OwnSkillH w g n H xs) : OwnSkill w g n xs := by
  obtain ⟨cur, G, hk, hs, hl, hc, hG, _⟩ := h
  exact ⟨cur, G, hk, hs, hl, hc, hG⟩
theorem OwnSkillH.step {w w' : World} {g n H : Nat} {xs : List SkillR} (h : OwnSkillH w g n H xs) (hb : Below w.heap.size w w') : OwnSkillH w' g n H xs := by
  obtain ⟨cur, G, hk, hs, hl, hc, hG, hH⟩ := h
  exact ⟨cur, G, hk.step hb, hs, hl, fun t ht => ⟨(hc t ht).1, (hc t ht).2.1, (hc t ht).2.2.1, (hc t ht).2.2.2.step hb⟩, hG, hH⟩
/-- only blocks from lo on and below hi have turned -/
structure Spread (lo hi : Nat) (w w' : World) : Prop where
  below : Below lo w w'
  above : ∀ i, hi ≤ i → i < w.heap.size → w'.heap[i]? = w.heap[i]?
theorem Spread.refl (lo hi : Nat) (w : World) : Spread lo hi w w := ⟨Below.refl _ _, fun _ _ _ => rfl⟩
theorem Spread.only {lo hi g : Nat} {w w1 w2 : World} (h : Spread lo hi w w1) (hg : w1.grownBy w2 (some g)) (h0 : lo ≤ g) (h1 : g < hi) (hl : lo ≤ w.heap.size) : Spread lo hi w w2 :=
  ⟨h.below.grown hg (Nat.le_trans hl h.below.size) (fun j hj => by injection hj with hj; omega), fun i hi hs => (hg.block i (Nat.lt_of_lt_of_le hs h.below.size) (fun e => by injection e; omega)).trans (h.above i hi hs)⟩
theorem own_span {w w' : World} {lo hi base : Nat} {e : TypeId} {size n : Nat} {v : Value} {xs : List Value} (h : w.ownsRow base e size v n xs) (hle : hi ≤ base) (hb : Spread lo hi w w') : w'.ownsRow base e size v n xs := by
  have hl := own_lt h
  refine ⟨h.1, ?_⟩
  rcases h.2 with hn | ⟨g', cap, cur, rfl, hg', hh, rest⟩
  · exact .inl hn
  · exact .inr ⟨g', cap, cur, rfl, hg', (hb.above g' (Nat.le_trans hle hg') (hl g' (by simp [Value.ownBlock]))).trans hh, rest⟩
theorem own_to_int {w : World} {B g n : Nat} {xs : List Int} (h : w.ownsRow B 3 1 (.slice (some ⟨g, 0, none⟩) n n) n (iv xs)) : OwnInt w g n xs := by
  refine ⟨h.1, ?_⟩
  rcases h.2 with ⟨h0, _⟩ | ⟨g2, cap, cur, hv, hg, rest⟩
  · cases h0
  · have hv' := hv
    injection hv with h1 h2 h3
    injection h1 with h1
    injection h1 with h1
    subst h1
    exact .inr ⟨g, cap, cur, hv', Nat.le_refl _, rest⟩
def lenTo (xs : List SkillR) : Nat → Nat
  | 0 => 0
  | k + 1 => lenTo xs k + (xs.getD k ⟨[], 0⟩).f0.length
theorem lenTo_tot (xs : List SkillR) (k : Nat) : (lenTo xs k : Int) = totSkill xs k := by
  induction k with
  | zero => rfl
  | succ k ih =>
    have h3 : totSkill xs (k + 1) = totSkill xs k + ((xs.getD k ⟨[], 0⟩).f0.length : Int) := rfl
    rw [h3, ← ih]
    simp [lenTo]
theorem lenTo_mono (xs : List SkillR) (a b : Nat) (h : a ≤ b) : lenTo xs a ≤ lenTo xs b := by
  have := totSkill_nn xs a b h
  have h1 := lenTo_tot xs a
  have h2 := lenTo_tot xs b
  omega
set_option maxHeartbeats 1000000 in
theorem markSkillS_c (g n k H : Nat) (xs : List SkillR) (w : World) (hn : n ≤ 1048576) (hk : k ≤ 1000) (ht : lenTo xs n ≤ 1048576) (h : OwnSkillH w g n H xs) (hgH : g < H) :
    Calls Try.prog 18 #[.slice (some ⟨g, 0, none⟩) n n, .int .i64 (k : Int)] w (fun e w' => e = .returned (.int .i64 ((k + lenTo xs n + n : Nat) : Int)) ∧ Spread g H w w') := by
  obtain ⟨cur0, G, hb, hs, hl, hc, hG, hH⟩ := h
  have HGE := Lib.hid fun t ht => (hc t ht).1
  have HLE := Lib.hid fun t ht => (hc t ht).2.1
  have HGG := Lib.hid hG
  have HHH := Lib.hid hH
  have hgl : g ≤ w.heap.size := Nat.le_of_lt hb.lt
  have hrows : ∀ t, t < n → 0 ≤ t → OwnInt w (G t) (xs.getD t ⟨[], 0⟩).f0.length (xs.getD t ⟨[], 0⟩).f0 := fun t ht _ => (hc t ht).2.2.2
  have hsl0 : ∀ t, t < n → cur0[t * 2]? = some (.slice (some ⟨G t, 0, none⟩) (xs.getD t ⟨[], 0⟩).f0.length (xs.getD t ⟨[], 0⟩).f0.length) := fun t ht => (hc t ht).2.2.1.1
  clear hc hG hH hl
  go_enter Try.func18, Try.ntmps18
  go_wp2
  go_loopw [1, 5] (fun q i wr => ∃ (j : Nat) (cur : Array Value), j ≤ n ∧ i = .int .i64 j ∧ q = .int .i64 ((k + lenTo xs j + j : Nat) : Int) ∧ Blk wr g 43 cur ∧ cur.size = n * 2 ∧ (∀ t, t < n → cur[t * 2]? = some (.slice (some ⟨G t, 0, none⟩) (xs.getD t ⟨[], 0⟩).f0.length (xs.getD t ⟨[], 0⟩).f0.length)) ∧ (∀ t, t < n → j ≤ t → OwnInt wr (G t) (xs.getD t ⟨[], 0⟩).f0.length (xs.getD t ⟨[], 0⟩).f0) ∧ Spread g H w wr) (fun _ i _ => n - (intOf i).toNat)
  case atStart => exact ⟨0, cur0, Nat.zero_le _, rfl, rfl, hb, hs, hsl0, hrows, Spread.refl _ _ _⟩
  case round =>
    clear hb hrows hs hsl0
    obtain ⟨j, cur, hj, rfl, rfl, hK, hsz, hcs, hR, hS⟩ := hrel
    by_cases hlt : j < n
    · have hm := lenTo_mono xs (j + 1) n (by omega)
      have hU : lenTo xs (j + 1) = lenTo xs j + (xs.getD j ⟨[], 0⟩).f0.length := rfl
      have ck : wr.cell? ⟨g, j * 2, none⟩ = some (.slice (some ⟨G j, 0, none⟩) (xs.getD j ⟨[], 0⟩).f0.length (xs.getD j ⟨[], 0⟩).f0.length) := by rw [hK.cell]; exact hcs j hlt
      have hgj := HGE.out j hlt
      have hGH := HHH.out j hlt
      have HR := Lib.hid hR
      have HK := Lib.hid hK
      have HSZ := Lib.hid hsz
      have HCS := Lib.hid hcs
      have hle := HLE.out j hlt
      have HM := Lib.hid (markIntS_c (G j) (xs.getD j ⟨[], 0⟩).f0.length (k + lenTo xs j + j) (xs.getD j ⟨[], 0⟩).f0 wr (by omega) (by omega) (hR j hlt (Nat.le_refl _)))
      rw [hU] at hm
      have HU := Lib.hid hU
      clear hR hK hU hsz hcs hle
      generalize (xs.getD j ⟨[], 0⟩).f0.length = m at *
      generalize lenTo xs j = L at *
      go_wp2_with fail
      refine HM.out.mono ?_
      rintro _ w2 ⟨rfl, hb2⟩
      have hS1 := hS.only hb2 (by omega) hGH hgl
      have k2 := HK.out.grown hb2 (fun e => by injection e; omega)
      obtain ⟨K, hKK⟩ : ∃ K : Nat, k + L + j + 1 * m = K := ⟨_, rfl⟩
      have hKb : K ≤ 5000000 := by omega
      have HK3 := Lib.hid hKK
      rw [hKK]
      clear HM ck hKK
      obtain ⟨y1, hy1⟩ : ∃ y, w2.cell? ⟨g, j * 2 + 1, none⟩ = some y := ⟨cur[j * 2 + 1]'(by have := HSZ.out; omega), by rw [k2.cell]; simp⟩
      have z1 := k2.frozen (j * 2 + 1)
      have HG2 : Hid (w2.grownBy (w2.setCell ⟨g, j * 2 + 1, none⟩ (.int .i64 ((K + 0 : Nat) : Int))) (some g)) := Lib.hid (only_setCell (only_refl w2 (some g)) (p := ⟨g, j * 2 + 1, none⟩) (.inl rfl) (.int .i64 ((K + 0 : Nat) : Int)))
      have hS2 := hS1.only HG2.out (Nat.le_refl _) hgH hgl
      have hbk := (k2.set_ (j * 2 + 1) (.int .i64 ((K + 0 : Nat) : Int)))
      have hrow2 : ∀ t, t < n → j + 1 ≤ t → OwnInt (w2.setCell ⟨g, j * 2 + 1, none⟩ (.int .i64 ((K + 0 : Nat) : Int))) (G t) (xs.getD t ⟨[], 0⟩).f0.length (xs.getD t ⟨[], 0⟩).f0 := fun t ht hjt => ((HR.out t ht (by omega)).only hb2 (by have := HGG.out j t (by omega) ht; omega)).only HG2.out (by have := HGE.out t ht; omega)
      have hcs2 : ∀ t, t < n → (cur.setIfInBounds (j * 2 + 1) (.int .i64 ((K + 0 : Nat) : Int)))[t * 2]? = some (.slice (some ⟨G t, 0, none⟩) (xs.getD t ⟨[], 0⟩).f0.length (xs.getD t ⟨[], 0⟩).f0.length) := fun t ht => by
        have h1 := HCS.out t ht
        simp only [Array.getElem?_setIfInBounds]
        simp only [if_neg (show j * 2 + 1 ≠ t * 2 by omega)]
        exact h1
      clear hb2 k2 hS1 hS
      go_wp2
      go_roundw
      case rel => exact ⟨j + 1, _, by omega, by go_num, v_int (by have := HK3.out; rw [HU.out]; omega), hbk, by simp; exact HSZ.out, hcs2, hrow2, hS2⟩
      case measure => simp [intOf]; omega
    · obtain rfl : j = n := by omega
      go_wp2
      go_ret
      exact ⟨rfl, hS⟩
end Go.Proofs.Ytcapgojjhlfapab
