/- Drawer of cakes. -/
import Derived.Test.YtmkfnhgaiheckaaDl0
import Derived.Test.YtmkfnhgaiheckaaAppS
namespace Go.Proofs.Ytmkfnhgaiheckaa
open Go.ChangeShapes Go.WideShapes Go.ChangeAt Go.RowKit
set_option linter.unusedVariables false
set_option linter.unusedSimpArgs false
set_option maxHeartbeats 2000000

set_option maxHeartbeats 2000000 in
theorem l31List_s (B g : Nat) (W0 w : World) (h : St B g W0 w) : Calls Try.prog 110 #[.pointer (some ⟨g, 0, none⟩)] w (GotL B g W0 w 1 10 (fun v => 0 ≤ v ∧ v ≤ 19)) := by
  obtain ⟨i0, hi0, hz0, hz1, hz2⟩ := info_parts infoDl
  have hgl := h.1.lt
  have h0w := h.2.size
  have hs0 : St B g W0 (w.alloc (.cells #[] 3)) := h.alloc _
  have own0 := own_new w 3 w.heap.size (Nat.le_refl _)
  obtain ⟨W1, hW1⟩ : ∃ W1, W1 = w.alloc (.cells #[] 3) := ⟨_, rfl⟩
  rw [← hW1] at hs0 own0
  have hsz : W1.heap.size = w.heap.size + 1 := by rw [hW1]; simp
  go_enter Try.func110, Try.ntmps110
  go_wp2_with fail
  rw [← hW1]
  refine (below_s 10 B g W1 W1 (by omega) (by omega) ⟨hs0.1, only_refl _ _⟩).mono ?_
  rintro _ w2 ⟨n0, ⟨hn0, hn1⟩, rfl, hs2⟩
  have own2 := own_only own0 hs2.2 hgl
  have st2 : St B g W0 w2 := ⟨hs2.1, only_trans hs0.2 hs2.2⟩
  have hz2' : w.heap.size ≤ w2.heap.size := by have := hs2.2.size; omega
  obtain ⟨n, hn⟩ : ∃ n : Nat, 1 + n0 = n := ⟨(1 + n0).toNat, by omega⟩
  have HN := Lib.hid hn
  have hnl : 1 ≤ n ∧ n ≤ 10 := by omega
  have hw7 : wrap64 (1 + n0) = 1 + n0 := w64 ⟨by omega, by omega⟩
  clear hs0 own0 hs2 hn
  go_wp2
  rw [HN.out]
  clear hn0 hn1
  go_loopw [3, 5] (fun v i wr => ∃ (k : Nat) (L : List Int), k ≤ n ∧ i = .int .i64 k ∧ wr.ownsRow w.heap.size 3 1 v k (iv L) ∧ (∀ i, i < k → (fun v => 0 ≤ v ∧ v ≤ 19) (L.getD i 0)) ∧ St B g W0 wr ∧ w.heap.size ≤ wr.heap.size) (fun _ i _ => n - (intOf i).toNat)
  case atStart => exact ⟨0, [], Nat.zero_le _, rfl, own2, fun i hi => absurd hi (Nat.not_lt_zero _), st2, hz2'⟩
  case round =>
    clear own2 st2 hz2'
    obtain ⟨k, L, hk, rfl, hown, hP, hst, hsz2⟩ := hrel
    obtain ⟨A1, c1, rfl⟩ := own_shape_i hown
    by_cases hlt : k < n
    · have HP := Lib.hid hP
      clear hP
      go_wp2_with fail
      refine (below_s 20 B g wr wr (by omega) (by omega) ⟨hst.1, only_refl _ _⟩).mono ?_
      rintro _ w3 ⟨x, ⟨hx0, hx1⟩, rfl, hs3⟩
      have own3 := own_only hown hs3.2 hgl
      have st3 : St B g W0 w3 := ⟨hs3.1, only_trans hst.2 hs3.2⟩
      have hz3 : w.heap.size ≤ w3.heap.size := Nat.le_trans hsz2 hs3.2.size
      clear hown hst hs3 hsz2
      have hk40 : k ≤ 1000 := by omega
      obtain ⟨y, hy⟩ : ∃ y : Int, x = y := ⟨_, rfl⟩
      have hPy : (fun v => 0 ≤ v ∧ v ≤ 19) y := by simp only []; omega
      have F1 : Hid (∀ u ∈ (#[Value.int .i64 y] : Array Value).toList, u.oneCell' = true) := Lib.hid (by intro u hu; simp at hu; subst hu; rfl)
      have f12 : k + 1 ≤ maxLen := by unfold maxLen; omega
      have f13 : (k + 1) * 8 ≤ 140737488355328 := by omega
      have hz9 : w.heap.size ≤ w3.heap.size := hz3
      have WY : Hid (True) := Lib.hid trivial
      go_wp2_with (at_builtin; refine wpList_app w3 rfl (.tmp 15) (.tmp 18) 43 rfl w.heap.size 3 i0 (.int .i64 0) 1 8 Try.underlying43 hi0 hz0 hz1 hz2 rfl Nat.one_pos (.slice A1 k c1) k (iv L) rfl own3 1 #[.int .i64 y] rfl rfl F1.out f12 f13 hz9 ?_; intro v1 w1 hown1 hbw1)
      have st1 : St B g W0 w1 := st3.base hbw1 hgl (Nat.le_trans h0w (Nat.le_refl _))
      have hl1 := own_len_i (xs := L) own3
      have hown2 : w1.ownsRow w.heap.size 3 1 v1 (k + 1) (iv (L ++ [y])) := by rw [iv_app]; exact hown1
      have hP2 := getD_app L k y hl1 (fun v => 0 ≤ v ∧ v ≤ 19) HP.out hPy
      have hz1' : w.heap.size ≤ w1.heap.size := Nat.le_trans hz3 hbw1.size
      clear hown1 hbw1 own3 st3 hz3 f12 f13
      go_wp2
      go_roundw
      case rel => exact ⟨k + 1, L ++ [y], by omega, by go_num, hown2, hP2, st1, hz1'⟩
      case measure => simp [intOf]; omega
    · obtain rfl : k = n := by omega
      go_wp2
      go_ret
      exact ⟨A1, c1, k, L, rfl, hnl.1, hnl.2, hP, hown, hst⟩
theorem own_cap2 {w : World} {base n c : Nat} {e : TypeId} {A : Option Addr} {xs : List Value} (h : w.ownsRow base e 1 (.slice A n c) n xs) : c ≤ maxLen := by
  rcases h.2 with ⟨h1, h2⟩ | ⟨g, cap, cur, hv, hg, hh, hnc, hcm, _⟩
  · injection h1 with _ _ h3; subst h3; exact Nat.zero_le _
  · injection hv with _ _ h3; omega
def GotCakes (w : World) (e : Ending) (w' : World) : Prop := ∃ (A : Option Addr) (c : Nat) (B : Option Addr) (d n : Nat) (xs ys : List Int), e = .returned (.tuple #[.slice A n c, .slice B n d]) ∧ (1 ≤ n ∧ n ≤ 10) ∧ (∀ i, i < n → (fun v => 0 ≤ v ∧ v ≤ 19) (xs.getD i 0)) ∧ (∀ i, i < n → (fun v => 0 ≤ v ∧ v ≤ 19) (ys.getD i 0)) ∧ ReadsI w' A n xs ∧ ReadsI w' B n ys ∧ n ≤ c ∧ c ≤ maxLen ∧ n ≤ d ∧ d ≤ maxLen ∧ Below w.heap.size w w'
set_option maxHeartbeats 4000000 in
theorem DrawCakes_c (a : Option Addr) (len cap : Nat) (w : World) (hb : Bytes w w.heap.size a len) :
    Calls Try.prog 30 #[.slice a len cap] w (GotCakes w) := by
  obtain ⟨i0, hi0, hz0, hz1, hz2⟩ := info_parts infoDl
  have HN := Lib.hid (new_s a len cap w hb)
  go_enter Try.func30, Try.ntmps30
  go_wp2_with fail
  refine HN.out.mono ?_
  rintro _ w1 ⟨rfl, hc, hb1⟩
  go_wp2_with fail
  refine (l31List_s w.heap.size w.heap.size w1 w1 ⟨hc, only_refl _ _⟩).mono ?_
  rintro _ w2 ⟨A, c, n, xs, rfl, h1, h2, hP, hown, hs⟩
  have hb2 : Below w.heap.size w w2 := hb1.trans (below_of_only hs.2 (Nat.le_refl _) hb1.size)
  have st2 : St w.heap.size w.heap.size w2 w2 := ⟨hs.1, only_refl _ _⟩
  have rx2 := reads_own_i hown
  have hg2 : w.heap.size < w2.heap.size := by have := hs.2.size; have := hc.lt; omega
  have hcp := own_cap hown
  have hcm := own_cap2 hown
  have own0 := own_new w2 3 w2.heap.size (Nat.le_refl _)
  have hs0 : St w.heap.size w.heap.size w2 (w2.alloc (.cells #[] 3)) := st2.alloc _
  have hz : w2.heap.size ≤ (w2.alloc (.cells #[] 3)).heap.size := by simp
  have hg1 : w.heap.size < w1.heap.size := hc.lt
  have HRX := Lib.hid (fun W (h : St w.heap.size w.heap.size w2 W) => reads_own_i (own_only hown h.2 hg1))
  have HPX := Lib.hid hP
  have HB2 := Lib.hid hb2
  clear hb2 hP rx2 hown hs st2 hc hb1 HN
  go_wp2
  go_loopw [6, 7] (fun v i wr => ∃ (k : Nat) (L : List Int), k ≤ n ∧ i = .int .i64 k ∧ wr.ownsRow w2.heap.size 3 1 v k (iv L) ∧ (∀ i, i < k → (fun v => 0 ≤ v ∧ v ≤ 19) (L.getD i 0)) ∧ St w.heap.size w.heap.size w2 wr ∧ w2.heap.size ≤ wr.heap.size) (fun _ i _ => n - (intOf i).toNat)
  case atStart => exact ⟨0, [], Nat.zero_le _, rfl, own0, fun i hi => absurd hi (Nat.not_lt_zero _), hs0, hz⟩
  case round =>
    clear own0 hs0 hz
    obtain ⟨k, L, hk, rfl, hown, hP, hst, hsz2⟩ := hrel
    obtain ⟨A1, c1, rfl⟩ := own_shape_i hown
    by_cases hlt : k < n
    · have HP := Lib.hid hP
      clear hP
      go_wp2_with fail
      refine (below_s 20 w.heap.size w.heap.size wr wr (by omega) (by omega) ⟨hst.1, only_refl _ _⟩).mono ?_
      rintro _ w3 ⟨x, ⟨hx0, hx1⟩, rfl, hs3⟩
      have own3 := own_only hown hs3.2 hg2
      have st3 : St w.heap.size w.heap.size w2 w3 := ⟨hs3.1, only_trans hst.2 hs3.2⟩
      have hz3 : w2.heap.size ≤ w3.heap.size := Nat.le_trans hsz2 hs3.2.size
      clear hown hst hs3 hsz2
      have hk40 : k ≤ 1000 := by omega
      have hPy : (fun v => 0 ≤ v ∧ v ≤ 19) x := by simp only []; omega
      have F1 : Hid (∀ u ∈ (#[Value.int .i64 x] : Array Value).toList, u.oneCell' = true) := Lib.hid (one_lit x)
      have f12 : k + 1 ≤ maxLen := cap12 hk40
      have f13 : (k + 1) * 8 ≤ 140737488355328 := cap13 hk40
      go_wp2_with (at_builtin; refine wpList_app w3 rfl (.tmp 19) (.tmp 22) 43 rfl w2.heap.size 3 i0 (.int .i64 0) 1 8 Try.underlying43 hi0 hz0 hz1 hz2 rfl Nat.one_pos (.slice A1 k c1) k (iv L) rfl own3 1 #[.int .i64 x] rfl rfl F1.out f12 f13 hz3 ?_; intro v1 w1_ hown1 hbw1)
      have st1 : St w.heap.size w.heap.size w2 w1_ := st3.base hbw1 hg2 (Nat.le_refl _)
      have hl1 := own_len_i (xs := L) own3
      have hown2 : w1_.ownsRow w2.heap.size 3 1 v1 (k + 1) (iv (L ++ [x])) := by rw [iv_app]; exact hown1
      have hP2 := getD_app L k x hl1 (fun v => 0 ≤ v ∧ v ≤ 19) HP.out hPy
      have hz1' : w2.heap.size ≤ w1_.heap.size := Nat.le_trans hz3 hbw1.size
      clear hown1 hbw1 own3 st3 hz3 f12 f13
      go_wp2
      go_roundw
      case rel => exact ⟨k + 1, L ++ [x], by omega, by go_num, hown2, hP2, st1, hz1'⟩
      case measure => simp [intOf]; omega
    · obtain rfl : k = n := by omega
      go_wp2
      refine bodyPost_ret (v := .tuple #[.slice A k c, .slice A1 k c1]) (by simp [results, Try.results30, go_sem]) rfl ?_
      exact ⟨A, c, A1, c1, k, xs, L, rfl, ⟨h1, h2⟩, HPX.out, hP, HRX.out _ hst, reads_own_i hown, hcp, hcm, own_cap hown, own_cap2 hown, HB2.out.trans (below_of_only hst.2 (Nat.le_refl _) (by omega))⟩
end Go.Proofs.Ytmkfnhgaiheckaa
