/- The marking of a slice of Baskets of the call's own. -/
import Derived.Test.YtmkfnhgaiheckaaSBasket
import Derived.Test.YtmkfnhgaiheckaaOwnM
namespace Go.Proofs.Ytmkfnhgaiheckaa
open Go.ChangeShapes Go.WideShapes Go.ChangeAt Go.RowKit
set_option linter.unusedVariables false
set_option linter.unusedSimpArgs false
set_option maxHeartbeats 2000000
set_option maxRecDepth 4000

/-- as OwnBasket, every row's block lies below H -/
def OwnBasketH (w : World) (g n H : Nat) (xs : List BasketR) : Prop :=
  ∃ (cur : Array Value) (G : Nat → Nat), Blk w g 123 cur ∧ cur.size = n ∧ xs.length = n ∧ (∀ t, t < n → g < G t ∧ (xs.getD t ⟨[]⟩).f0.length ≤ 10000000 ∧ (cur[t]? = some (.slice (some ⟨G t, 0, none⟩) (xs.getD t ⟨[]⟩).f0.length (xs.getD t ⟨[]⟩).f0.length)) ∧ OwnInt w (G t) (xs.getD t ⟨[]⟩).f0.length (xs.getD t ⟨[]⟩).f0) ∧ (∀ t u, t < u → u < n → G t < G u) ∧ ∀ t, t < n → G t < H
theorem OwnBasket.bound {w : World} {g n : Nat} {xs : List BasketR} (h : OwnBasket w g n xs) : OwnBasketH w g n w.heap.size xs := by
  obtain ⟨cur, G, hk, hs, hl, hc, hG⟩ := h
  exact ⟨cur, G, hk, hs, hl, hc, hG, fun t ht => (hc t ht).2.2.2.lt⟩
theorem OwnBasketH.own {w : World} {g n H : Nat} {xs : List BasketR} (h : OwnBasketH w g n H xs) : OwnBasket w g n xs := by
  obtain ⟨cur, G, hk, hs, hl, hc, hG, _⟩ := h
  exact ⟨cur, G, hk, hs, hl, hc, hG⟩
theorem OwnBasketH.step {w w' : World} {g n H : Nat} {xs : List BasketR} (h : OwnBasketH w g n H xs) (hb : Below w.heap.size w w') : OwnBasketH w' g n H xs := by
  obtain ⟨cur, G, hk, hs, hl, hc, hG, hH⟩ := h
  exact ⟨cur, G, hk.step hb, hs, hl, fun t ht => ⟨(hc t ht).1, (hc t ht).2.1, (hc t ht).2.2.1, (hc t ht).2.2.2.step hb⟩, hG, hH⟩
/-- only blocks from lo on and below hi have turned -/
structure Spread (lo hi : Nat) (w w' : World) : Prop where
  below : Below lo w w'
  above : ∀ i, hi ≤ i → i < w.heap.size → w'.heap[i]? = w.heap[i]?
theorem Spread.refl (lo hi : Nat) (w : World) : Spread lo hi w w := ⟨Below.refl _ _, fun _ _ _ => rfl⟩
theorem Spread.only {lo hi g : Nat} {w w1 w2 : World} (h : Spread lo hi w w1) (hg : w1.grownBy w2 (some g)) (h0 : lo ≤ g) (h1 : g < hi) (hl : lo ≤ w.heap.size) : Spread lo hi w w2 :=
  ⟨h.below.grown hg (Nat.le_trans hl h.below.size) (fun j hj => by injection hj with hj; omega), fun i hi hs => (hg.block i (Nat.lt_of_lt_of_le hs h.below.size) (fun e => by injection e; omega)).trans (h.above i hi hs)⟩
theorem own_span {w w' : World} {lo hi base : Nat} {e : TypeId} {size n : Nat} {v : Value} {xs : List Value} (h : w.ownsRow base e size v n xs) (hle : hi ≤ base) (hb : Spread lo hi w w') : w'.ownsRow base e size v n xs := by
  have hl := own_lt h
  refine ⟨h.1, ?_⟩
  rcases h.2 with hn | ⟨g', cap, cur, rfl, hg', hh, rest⟩
  · exact .inl hn
  · exact .inr ⟨g', cap, cur, rfl, hg', (hb.above g' (Nat.le_trans hle hg') (hl g' (by simp [Value.ownBlock]))).trans hh, rest⟩
theorem own_to_int {w : World} {B g n : Nat} {xs : List Int} (h : w.ownsRow B 3 1 (.slice (some ⟨g, 0, none⟩) n n) n (iv xs)) : OwnInt w g n xs := by
  refine ⟨h.1, ?_⟩
  rcases h.2 with ⟨h0, _⟩ | ⟨g2, cap, cur, hv, hg, rest⟩
  · cases h0
  · have hv' := hv
    injection hv with h1 h2 h3
    injection h1 with h1
    injection h1 with h1
    subst h1
    exact .inr ⟨g, cap, cur, hv', Nat.le_refl _, rest⟩
def lenTo (xs : List BasketR) : Nat → Nat
  | 0 => 0
  | k + 1 => lenTo xs k + (xs.getD k ⟨[]⟩).f0.length
theorem lenTo_tot (xs : List BasketR) (k : Nat) : (lenTo xs k : Int) = totBasket xs k := by
  induction k with
  | zero => rfl
  | succ k ih =>
    have h3 : totBasket xs (k + 1) = totBasket xs k + ((xs.getD k ⟨[]⟩).f0.length : Int) := rfl
    rw [h3, ← ih]
    simp [lenTo]
theorem lenTo_mono (xs : List BasketR) (a b : Nat) (h : a ≤ b) : lenTo xs a ≤ lenTo xs b := by
  have := totBasket_nn xs a b h
  have h1 := lenTo_tot xs a
  have h2 := lenTo_tot xs b
  omega
set_option maxHeartbeats 1000000 in
theorem markBasketS_c (g n k H : Nat) (xs : List BasketR) (w : World) (hn : n ≤ 1048576) (hk : k ≤ 1000) (ht : lenTo xs n ≤ 1048576) (h : OwnBasketH w g n H xs) (hgH : g < H) :
    Calls Try.prog 21 #[.slice (some ⟨g, 0, none⟩) n n, .int .i64 (k : Int)] w (fun e w' => e = .returned (.int .i64 ((k + lenTo xs n : Nat) : Int)) ∧ Spread g H w w') := by
  obtain ⟨cur0, G, hb, hs, hl, hc, hG, hH⟩ := h
  have HGE := Lib.hid fun t ht => (hc t ht).1
  have HLE := Lib.hid fun t ht => (hc t ht).2.1
  have HGG := Lib.hid hG
  have HHH := Lib.hid hH
  have hgl : g ≤ w.heap.size := Nat.le_of_lt hb.lt
  have hrows : ∀ t, t < n → 0 ≤ t → OwnInt w (G t) (xs.getD t ⟨[]⟩).f0.length (xs.getD t ⟨[]⟩).f0 := fun t ht _ => (hc t ht).2.2.2
  have hsl0 : ∀ t, t < n → cur0[t]? = some (.slice (some ⟨G t, 0, none⟩) (xs.getD t ⟨[]⟩).f0.length (xs.getD t ⟨[]⟩).f0.length) := fun t ht => (hc t ht).2.2.1
  clear hc hG hH hl
  go_enter Try.func21, Try.ntmps21
  go_wp2
  go_loopw [1, 5] (fun q i wr => ∃ (j : Nat) (cur : Array Value), j ≤ n ∧ i = .int .i64 j ∧ q = .int .i64 ((k + lenTo xs j : Nat) : Int) ∧ Blk wr g 123 cur ∧ cur.size = n ∧ (∀ t, t < n → cur[t]? = some (.slice (some ⟨G t, 0, none⟩) (xs.getD t ⟨[]⟩).f0.length (xs.getD t ⟨[]⟩).f0.length)) ∧ (∀ t, t < n → j ≤ t → OwnInt wr (G t) (xs.getD t ⟨[]⟩).f0.length (xs.getD t ⟨[]⟩).f0) ∧ Spread g H w wr) (fun _ i _ => n - (intOf i).toNat)
  case atStart => exact ⟨0, cur0, Nat.zero_le _, rfl, rfl, hb, hs, hsl0, hrows, Spread.refl _ _ _⟩
  case round =>
    clear hb hrows hs hsl0
    obtain ⟨j, cur, hj, rfl, rfl, hK, hsz, hcs, hR, hS⟩ := hrel
    by_cases hlt : j < n
    · have hm := lenTo_mono xs (j + 1) n (by omega)
      have hU : lenTo xs (j + 1) = lenTo xs j + (xs.getD j ⟨[]⟩).f0.length := rfl
      have ck : wr.cell? ⟨g, j, none⟩ = some (.slice (some ⟨G j, 0, none⟩) (xs.getD j ⟨[]⟩).f0.length (xs.getD j ⟨[]⟩).f0.length) := by rw [hK.cell]; exact hcs j hlt
      have hgj := HGE.out j hlt
      have hGH := HHH.out j hlt
      have HR := Lib.hid hR
      have HK := Lib.hid hK
      have HSZ := Lib.hid hsz
      have HCS := Lib.hid hcs
      have hle := HLE.out j hlt
      have HM := Lib.hid (markIntS_c (G j) (xs.getD j ⟨[]⟩).f0.length (k + lenTo xs j) (xs.getD j ⟨[]⟩).f0 wr (by omega) (by omega) (hR j hlt (Nat.le_refl _)))
      rw [hU] at hm
      have HU := Lib.hid hU
      clear hR hK hU hsz hcs hle
      generalize (xs.getD j ⟨[]⟩).f0.length = m at *
      generalize lenTo xs j = L at *
      go_wp2_with fail
      refine HM.out.mono ?_
      rintro _ w2 ⟨rfl, hb2⟩
      have hS1 := hS.only hb2 (by omega) hGH hgl
      have k2 := HK.out.grown hb2 (fun e => by injection e; omega)
      obtain ⟨K, hKK⟩ : ∃ K : Nat, k + L + 1 * m = K := ⟨_, rfl⟩
      have hKb : K ≤ 5000000 := by omega
      have HK3 := Lib.hid hKK
      rw [hKK]
      clear HM ck hKK
      have HG2 : Hid (w2.grownBy w2 (some g)) := Lib.hid (only_refl w2 (some g))
      have hS2 := hS1.only HG2.out (Nat.le_refl _) hgH hgl
      have hbk := k2
      have hrow2 : ∀ t, t < n → j + 1 ≤ t → OwnInt w2 (G t) (xs.getD t ⟨[]⟩).f0.length (xs.getD t ⟨[]⟩).f0 := fun t ht hjt => ((HR.out t ht (by omega)).only hb2 (by have := HGG.out j t (by omega) ht; omega)).only HG2.out (by have := HGE.out t ht; omega)
      have hcs2 : ∀ t, t < n → cur[t]? = some (.slice (some ⟨G t, 0, none⟩) (xs.getD t ⟨[]⟩).f0.length (xs.getD t ⟨[]⟩).f0.length) := fun t ht => by
        have h1 := HCS.out t ht
        exact h1
      clear hb2 k2 hS1 hS
      go_wp2
      go_roundw
      case rel => exact ⟨j + 1, _, by omega, by go_num, v_int (by have := HK3.out; rw [HU.out]; omega), hbk, by first | exact HSZ.out | (simp; exact HSZ.out), hcs2, hrow2, hS2⟩
      case measure => simp [intOf]; omega
    · obtain rfl : j = n := by omega
      go_wp2
      go_ret
      exact ⟨rfl, hS⟩
end Go.Proofs.Ytmkfnhgaiheckaa
