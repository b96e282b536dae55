/- Drawer of sales. -/
import Derived.Test.YtolblfcpiddmbaaDl0
import Derived.Test.YtolblfcpiddmbaaAppS
namespace Go.Proofs.Ytolblfcpiddmbaa
open Go.ChangeShapes Go.WideShapes Go.ChangeAt Go.RowKit
set_option linter.unusedVariables false
set_option linter.unusedSimpArgs false
set_option maxHeartbeats 2000000

set_option maxHeartbeats 2000000 in
theorem l14List_s (B g : Nat) (W0 w : World) (h : St B g W0 w) : Calls Try.prog 52 #[.pointer (some ⟨g, 0, none⟩)] w (GotL B g W0 w 7 26 (fun v => 20 ≤ v ∧ v ≤ 89)) := by
  obtain ⟨i0, hi0, hz0, hz1, hz2⟩ := info_parts infoDl
  have hgl := h.1.lt
  have h0w := h.2.size
  have hs0 : St B g W0 (w.alloc (.cells #[] 3)) := h.alloc _
  have own0 := own_new w 3 w.heap.size (Nat.le_refl _)
  obtain ⟨W1, hW1⟩ : ∃ W1, W1 = w.alloc (.cells #[] 3) := ⟨_, rfl⟩
  rw [← hW1] at hs0 own0
  have hsz : W1.heap.size = w.heap.size + 1 := by rw [hW1]; simp
  go_enter Try.func52, Try.ntmps52
  go_wp2_with fail
  rw [← hW1]
  refine (below_s 20 B g W1 W1 (by omega) (by omega) ⟨hs0.1, only_refl _ _⟩).mono ?_
  rintro _ w2 ⟨n0, ⟨hn0, hn1⟩, rfl, hs2⟩
  have own2 := own_only own0 hs2.2 hgl
  have st2 : St B g W0 w2 := ⟨hs2.1, only_trans hs0.2 hs2.2⟩
  have hz2' : w.heap.size ≤ w2.heap.size := by have := hs2.2.size; omega
  obtain ⟨n, hn⟩ : ∃ n : Nat, 7 + n0 = n := ⟨(7 + n0).toNat, by omega⟩
  have HN := Lib.hid hn
  have hnl : 7 ≤ n ∧ n ≤ 26 := by omega
  have hw7 : wrap64 (7 + n0) = 7 + n0 := w64 ⟨by omega, by omega⟩
  clear hs0 own0 hs2 hn
  go_wp2
  rw [HN.out]
  clear hn0 hn1
  go_loopw [3, 5] (fun v i wr => ∃ (k : Nat) (L : List Int), k ≤ n ∧ i = .int .i64 k ∧ wr.ownsRow w.heap.size 3 1 v k (iv L) ∧ (∀ i, i < k → (fun v => 20 ≤ v ∧ v ≤ 89) (L.getD i 0)) ∧ St B g W0 wr ∧ w.heap.size ≤ wr.heap.size) (fun _ i _ => n - (intOf i).toNat)
  case atStart => exact ⟨0, [], Nat.zero_le _, rfl, own2, fun i hi => absurd hi (Nat.not_lt_zero _), st2, hz2'⟩
  case round =>
    clear own2 st2 hz2'
    obtain ⟨k, L, hk, rfl, hown, hP, hst, hsz2⟩ := hrel
    obtain ⟨A1, c1, rfl⟩ := own_shape_i hown
    by_cases hlt : k < n
    · have HP := Lib.hid hP
      clear hP
      go_wp2_with fail
      refine (below_s 30 B g wr wr (by omega) (by omega) ⟨hst.1, only_refl _ _⟩).mono ?_
      rintro _ w3 ⟨x, ⟨hx0, hx1⟩, rfl, hs3⟩
      have own3 := own_only hown hs3.2 hgl
      have st3 : St B g W0 w3 := ⟨hs3.1, only_trans hst.2 hs3.2⟩
      have hz3 : w.heap.size ≤ w3.heap.size := Nat.le_trans hsz2 hs3.2.size
      clear hown hst hs3 hsz2
      have hk40 : k ≤ 1000 := by omega
      obtain ⟨q, hq⟩ : ∃ q : Int, (k : Int) % 7 / 5 = q := ⟨_, rfl⟩
      have hq1 : 0 ≤ q ∧ q ≤ 1 := by omega
      obtain ⟨y, hy⟩ : ∃ y : Int, 20 + x + 40 * q = y := ⟨_, rfl⟩
      have hPy : (fun v => 20 ≤ v ∧ v ≤ 89) y := by simp only []; omega
      have F1 : Hid (∀ u ∈ (#[Value.int .i64 y] : Array Value).toList, u.oneCell' = true) := Lib.hid (by intro u hu; simp at hu; subst hu; rfl)
      have f12 : k + 1 ≤ maxLen := by unfold maxLen; omega
      have f13 : (k + 1) * 8 ≤ 140737488355328 := by omega
      have V1 : wrap64 (20 + x) = 20 + x := w64 ⟨by omega, by omega⟩
      have V2 : wrap64 (40 * q) = 40 * q := w64 ⟨by omega, by omega⟩
      have V3 : wrap64 (20 + x + 40 * q) = y := by rw [w64 ⟨by omega, by omega⟩]; exact hy
      have hz9 : w.heap.size ≤ w3.heap.size := hz3
      have WY : Hid (True) := Lib.hid trivial
      go_wp2_with (at_builtin; refine wpList_app w3 rfl (.tmp 15) (.tmp 24) 24 rfl w.heap.size 3 i0 (.int .i64 0) 1 8 Try.underlying24 hi0 hz0 hz1 hz2 rfl Nat.one_pos (.slice A1 k c1) k (iv L) rfl own3 1 #[.int .i64 y] rfl rfl F1.out f12 f13 hz9 ?_; intro v1 w1 hown1 hbw1)
      have st1 : St B g W0 w1 := st3.base hbw1 hgl (Nat.le_trans h0w (Nat.le_refl _))
      have hl1 := own_len_i (xs := L) own3
      have hown2 : w1.ownsRow w.heap.size 3 1 v1 (k + 1) (iv (L ++ [y])) := by rw [iv_app]; exact hown1
      have hP2 := getD_app L k y hl1 (fun v => 20 ≤ v ∧ v ≤ 89) HP.out hPy
      have hz1' : w.heap.size ≤ w1.heap.size := Nat.le_trans hz3 hbw1.size
      clear V1 V2 V3
      clear hown1 hbw1 own3 st3 hz3 f12 f13
      go_wp2
      go_roundw
      case rel => exact ⟨k + 1, L ++ [y], by omega, by go_num, hown2, hP2, st1, hz1'⟩
      case measure => simp [intOf]; omega
    · obtain rfl : k = n := by omega
      go_wp2
      go_ret
      exact ⟨A1, c1, k, L, rfl, hnl.1, hnl.2, hP, hown, hst⟩
theorem DrawSales_c (a : Option Addr) (len cap : Nat) (w : World) (hb : Bytes w w.heap.size a len) :
    Calls Try.prog 10 #[.slice a len cap] w (fun e w' => ∃ (A : Option Addr) (c n : Nat) (xs : List Int), e = .returned (.slice A n c) ∧ (7 ≤ n ∧ n ≤ 26) ∧ (∀ i, i < n → (fun v => 20 ≤ v ∧ v ≤ 89) (xs.getD i 0)) ∧ ReadsI w' A n xs ∧ xs.length = n ∧ n ≤ c ∧ (A = none → n = 0 ∧ c = 0) ∧ Below w.heap.size w w') := by
  have HN := Lib.hid (new_s a len cap w hb)
  go_enter Try.func10, Try.ntmps10
  go_wp2_with fail
  refine HN.out.mono ?_
  rintro _ w1 ⟨rfl, hc, hb1⟩
  go_wp2_with fail
  refine (l14List_s w.heap.size w.heap.size w1 w1 ⟨hc, only_refl _ _⟩).mono ?_
  rintro _ w2 ⟨A, c, n, xs, rfl, h1, h2, hP, hown, hs⟩
  have hs2 := hs.2
  go_wp2
  go_ret
  refine ⟨A, c, n, xs, rfl, ⟨h1, h2⟩, hP, reads_own_i hown, own_len_i hown, own_cap hown, own_none hown, ?_⟩
  exact hb1.trans (below_of_only hs2 (Nat.le_refl _) hb1.size)
end Go.Proofs.Ytolblfcpiddmbaa
