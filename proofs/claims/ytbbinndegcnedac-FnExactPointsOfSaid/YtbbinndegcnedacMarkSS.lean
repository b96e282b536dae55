/- The marking of a slice of slices of ints of the call's own. -/
import Derived.Test.YtbbinndegcnedacSS
import Derived.Test.YtbbinndegcnedacOwnM
namespace Go.Proofs.Ytbbinndegcnedac
open Go.ChangeShapes Go.WideShapes Go.ChangeAt Go.RowKit
set_option linter.unusedVariables false
set_option linter.unusedSimpArgs false
set_option maxHeartbeats 2000000

/-- as OwnIntS, every row's block lies below H -/
def OwnSSH (w : World) (g n H : Nat) (xs : List IntSR) : Prop :=
  ∃ (cur : Array Value) (G : Nat → Nat), Blk w g 27 cur ∧ cur.size = n ∧ xs.length = n ∧ (∀ t, t < n → g < G t ∧ (xs.getD t []).length ≤ 10000000 ∧ cur[t]? = some (.slice (some ⟨G t, 0, none⟩) (xs.getD t []).length (xs.getD t []).length) ∧ OwnInt w (G t) (xs.getD t []).length (xs.getD t [])) ∧ (∀ t u, t < u → u < n → G t < G u) ∧ ∀ t, t < n → G t < H
theorem OwnIntS.bound {w : World} {g n : Nat} {xs : List IntSR} (h : OwnIntS w g n xs) : OwnSSH w g n w.heap.size xs := by
  obtain ⟨cur, G, hk, hs, hl, hc, hG⟩ := h
  exact ⟨cur, G, hk, hs, hl, hc, hG, fun t ht => (hc t ht).2.2.2.lt⟩
theorem OwnSSH.own {w : World} {g n H : Nat} {xs : List IntSR} (h : OwnSSH w g n H xs) : OwnIntS w g n xs := by
  obtain ⟨cur, G, hk, hs, hl, hc, hG, _⟩ := h
  exact ⟨cur, G, hk, hs, hl, hc, hG⟩
theorem OwnSSH.step {w w' : World} {g n H : Nat} {xs : List IntSR} (h : OwnSSH w g n H xs) (hb : Below w.heap.size w w') : OwnSSH w' g n H xs := by
  obtain ⟨cur, G, hk, hs, hl, hc, hG, hH⟩ := h
  exact ⟨cur, G, hk.step hb, hs, hl, fun t ht => ⟨(hc t ht).1, (hc t ht).2.1, (hc t ht).2.2.1, (hc t ht).2.2.2.step hb⟩, hG, hH⟩
/-- only blocks from lo on and below hi have turned -/
structure Spread (lo hi : Nat) (w w' : World) : Prop where
  below : Below lo w w'
  above : ∀ i, hi ≤ i → i < w.heap.size → w'.heap[i]? = w.heap[i]?
theorem Spread.refl (lo hi : Nat) (w : World) : Spread lo hi w w := ⟨Below.refl _ _, fun _ _ _ => rfl⟩
theorem Spread.only {lo hi g : Nat} {w w1 w2 : World} (h : Spread lo hi w w1) (hg : w1.grownBy w2 (some g)) (h0 : lo ≤ g) (h1 : g < hi) (hl : lo ≤ w.heap.size) : Spread lo hi w w2 :=
  ⟨h.below.grown hg (Nat.le_trans hl h.below.size) (fun j hj => by injection hj with hj; omega), fun i hi hs => (hg.block i (Nat.lt_of_lt_of_le hs h.below.size) (fun e => by injection e; omega)).trans (h.above i hi hs)⟩
theorem own_span {w w' : World} {lo hi : Nat} {e : TypeId} {size n : Nat} {v : Value} {xs : List Value} (h : w.ownsRow hi e size v n xs) (hb : Spread lo hi w w') : w'.ownsRow hi e size v n xs := by
  have hl := own_lt h
  refine ⟨h.1, ?_⟩
  rcases h.2 with hn | ⟨g', cap, cur, rfl, hg', hh, rest⟩
  · exact .inl hn
  · exact .inr ⟨g', cap, cur, rfl, hg', (hb.above g' hg' (hl g' (by simp [Value.ownBlock]))).trans hh, rest⟩
def lenTo (xs : List IntSR) : Nat → Nat
  | 0 => 0
  | k + 1 => lenTo xs k + (xs.getD k []).length
theorem lenTo_tot (xs : List IntSR) (k : Nat) : (lenTo xs k : Int) = totTo xs k := by
  induction k with
  | zero => rfl
  | succ k ih =>
    have h3 : totTo xs (k + 1) = totTo xs k + ((xs.getD k []).length : Int) := rfl
    rw [h3, ← ih]
    simp [lenTo]
theorem lenTo_mono (xs : List IntSR) (a b : Nat) (h : a ≤ b) : lenTo xs a ≤ lenTo xs b := by
  have := totTo_nn xs a b h
  have h1 := lenTo_tot xs a
  have h2 := lenTo_tot xs b
  omega
set_option maxHeartbeats 2000000 in
theorem markIntSS_c (g n k H : Nat) (xs : List IntSR) (w : World) (hn : n ≤ 1048576) (hk : k ≤ 1000) (ht : lenTo xs n ≤ 1048576) (h : OwnSSH w g n H xs) :
    Calls Try.prog 19 #[.slice (some ⟨g, 0, none⟩) n n, .int .i64 (k : Int)] w (fun e w' => e = .returned (.int .i64 ((k + lenTo xs n : Nat) : Int)) ∧ Spread g H w w') := by
  obtain ⟨cur, G, hb, hs, hl, hc, hG, hH⟩ := h
  have HCC := Lib.hid hc
  have HGG := Lib.hid hG
  have HHH := Lib.hid hH
  have HSS := Lib.hid hs
  have hgl : g ≤ w.heap.size := Nat.le_of_lt hb.lt
  have hrows : ∀ t, t < n → 0 ≤ t → OwnInt w (G t) (xs.getD t []).length (xs.getD t []) := fun t ht _ => (hc t ht).2.2.2
  clear hc hG hH hs hl
  go_enter Try.func19, Try.ntmps19
  go_wp2
  go_loopw [1, 5] (fun q i wr => ∃ j : Nat, j ≤ n ∧ i = .int .i64 j ∧ q = .int .i64 ((k + lenTo xs j : Nat) : Int) ∧ Blk wr g 27 cur ∧ (∀ t, t < n → j ≤ t → OwnInt wr (G t) (xs.getD t []).length (xs.getD t [])) ∧ Spread g H w wr) (fun _ i _ => n - (intOf i).toNat)
  case atStart => exact ⟨0, Nat.zero_le _, rfl, rfl, hb, hrows, Spread.refl _ _ _⟩
  case round =>
    clear hb hrows
    obtain ⟨j, hj, rfl, rfl, hK, hR, hS⟩ := hrel
    by_cases hlt : j < n
    · have hm := lenTo_mono xs (j + 1) n (by omega)
      have hU : lenTo xs (j + 1) = lenTo xs j + (xs.getD j []).length := rfl
      have hcj := HCC.out j hlt
      have ck : wr.cell? ⟨g, j, none⟩ = some (.slice (some ⟨G j, 0, none⟩) (xs.getD j []).length (xs.getD j []).length) := by rw [hK.cell]; exact hcj.2.2.1
      have hgj := hcj.1
      have HR := Lib.hid hR
      have HK := Lib.hid hK
      have HM := Lib.hid (markIntS_c (G j) (xs.getD j []).length (k + lenTo xs j) (xs.getD j []) wr (by omega) (by omega) (hR j hlt (Nat.le_refl _)))
      rw [hU] at hm
      have HU := Lib.hid hU
      clear hR hK hcj hU
      generalize (xs.getD j []).length = m at *
      generalize lenTo xs j = L at *
      go_wp2_with fail
      refine HM.out.mono ?_
      rintro _ w2 ⟨rfl, hb2⟩
      have hS2 := hS.only hb2 (by omega) (HHH.out j hlt) hgl
      clear HM
      go_wp2
      go_roundw
      case rel => exact ⟨j + 1, by omega, by go_num, v_int (by rw [HU.out]; omega), HK.out.grown hb2 (fun e => by injection e; omega), fun t ht hjt => (HR.out t ht (by omega)).only hb2 (by have := HGG.out j t (by omega) ht; omega), hS2⟩
      case measure => simp [intOf]; omega
    · obtain rfl : j = n := by omega
      go_wp2
      go_ret
      exact ⟨rfl, hS⟩
end Go.Proofs.Ytbbinndegcnedac
