/- Drawer of lengths. -/
import Derived.Test.YthndjpklfgcpmaaDl0
import Derived.Test.YthndjpklfgcpmaaAppS
namespace Go.Proofs.Ythndjpklfgcpmaa
open Go.ChangeShapes Go.WideShapes Go.ChangeAt Go.RowKit
set_option linter.unusedVariables false
set_option linter.unusedSimpArgs false
set_option maxHeartbeats 2000000

def GotLens (w : World) (e : Ending) (w' : World) : Prop := ∃ (A : Option Addr) (c n : Nat) (xs : List Int), e = .returned (.slice A n c) ∧ n ≤ 6 ∧ (∀ i, i < n → (fun v => 1 ≤ v ∧ v ≤ 120) (xs.getD i 0)) ∧ ReadsI w' A n xs ∧ n ≤ c ∧ Below w.heap.size w w'
theorem own_cap0 {w : World} {base n c : Nat} {e : TypeId} {A : Option Addr} {xs : List Value} (h : w.ownsRow base e 1 (.slice A n c) n xs) : n ≤ c := by
  rcases h.2 with ⟨h1, h2⟩ | ⟨g, cap, cur, hv, hg, hh, hnc, _⟩
  · omega
  · injection hv with _ _ h3; omega
set_option maxHeartbeats 4000000 in
theorem DrawLengths_c (a : Option Addr) (len cap : Nat) (w : World) (hb : Bytes w w.heap.size a len) :
    Calls Try.prog 24 #[.slice a len cap] w (GotLens w) := by
  obtain ⟨i0, hi0, hz0, hz1, hz2⟩ := info_parts infoDl
  have HN := Lib.hid (new_s a len cap w hb)
  go_enter Try.func24, Try.ntmps24
  go_wp2_with fail
  refine HN.out.mono ?_
  rintro _ w1 ⟨rfl, hc, hb1⟩
  have hg1 : w.heap.size < w1.heap.size := hc.lt
  have own0 := own_new w1 3 w1.heap.size (Nat.le_refl _)
  have st1 : St w.heap.size w.heap.size w1 w1 := ⟨hc, only_refl _ _⟩
  have hs0 : St w.heap.size w.heap.size w1 (w1.alloc (.cells #[] 3)) := st1.alloc _
  obtain ⟨W1, hW1⟩ : ∃ W1, W1 = w1.alloc (.cells #[] 3) := ⟨_, rfl⟩
  rw [← hW1] at hs0 own0
  have hsz : w1.heap.size ≤ W1.heap.size := by rw [hW1]; simp
  have HB1 := Lib.hid hb1
  clear hb1 HN st1 hc
  go_wp2_with fail
  rw [← hW1]
  refine (below_s 7 w.heap.size w.heap.size W1 W1 (by omega) (by omega) ⟨hs0.1, only_refl _ _⟩).mono ?_
  rintro _ w2 ⟨n0, ⟨hn0, hn1⟩, rfl, hs2⟩
  have own2 := own_only own0 hs2.2 hg1
  have st2 : St w.heap.size w.heap.size w1 w2 := ⟨hs2.1, only_trans hs0.2 hs2.2⟩
  have hz2' : w1.heap.size ≤ w2.heap.size := by have := hs2.2.size; omega
  clear hs0 own0 hs2 hW1 hsz
  go_wp2
  go_loopw [4, 5] (fun v i wr => ∃ (k : Nat) (m : Int) (L : List Int), 0 ≤ m ∧ (k : Int) + m = n0 ∧ i = .int .i64 m ∧ wr.ownsRow w1.heap.size 3 1 v k (iv L) ∧ (∀ i, i < k → (fun v => 1 ≤ v ∧ v ≤ 120) (L.getD i 0)) ∧ St w.heap.size w.heap.size w1 wr ∧ w1.heap.size ≤ wr.heap.size) (fun _ i _ => (intOf i).toNat)
  case atStart => exact ⟨0, n0, [], by omega, by omega, rfl, own2, fun i hi => absurd hi (Nat.not_lt_zero _), st2, hz2'⟩
  case round =>
    clear own2 st2 hz2'
    obtain ⟨k, m, L, hm, hk, rfl, hown, hP, hst, hsz2⟩ := hrel
    obtain ⟨A1, c1, rfl⟩ := own_shape_i hown
    by_cases hlt : 0 < m
    · have HP := Lib.hid hP
      clear hP
      go_wp2_with fail
      refine (below_s 120 w.heap.size w.heap.size wr wr (by omega) (by omega) ⟨hst.1, only_refl _ _⟩).mono ?_
      rintro _ w3 ⟨x, ⟨hx0, hx1⟩, rfl, hs3⟩
      have own3 := own_only hown hs3.2 hg1
      have st3 : St w.heap.size w.heap.size w1 w3 := ⟨hs3.1, only_trans hst.2 hs3.2⟩
      have hz3 : w1.heap.size ≤ w3.heap.size := Nat.le_trans hsz2 hs3.2.size
      clear hown hst hs3 hsz2
      have hk40 : k ≤ 1000 := by omega
      obtain ⟨y, hy⟩ : ∃ y : Int, 1 + x = y := ⟨_, rfl⟩
      have hw8 : wrap64 (1 + x) = y := by rw [hy, w64 ⟨by omega, by omega⟩]
      have hw9 : IntKind.i64.wrap (1 + x) = y := by rw [hy, IntWalk.i64_in _ (by omega)]
      have hw7 : wrap64 (m - 1) = m - 1 := w64 ⟨by omega, by omega⟩
      have hPy : (fun v => 1 ≤ v ∧ v ≤ 120) y := by simp only []; omega
      clear hy hx0 hx1
      have F1 : Hid (∀ u ∈ (#[Value.int .i64 y] : Array Value).toList, u.oneCell' = true) := Lib.hid (one_lit y)
      have f12 : k + 1 ≤ maxLen := cap12 hk40
      have f13 : (k + 1) * 8 ≤ 140737488355328 := cap13 hk40
      go_wp2_with (at_builtin; refine wpList_app w3 rfl (.tmp 15) (.tmp 19) 22 rfl w1.heap.size 3 i0 (.int .i64 0) 1 8 Try.underlying22 hi0 hz0 hz1 hz2 rfl Nat.one_pos (.slice A1 k c1) k (iv L) rfl own3 1 #[.int .i64 y] rfl rfl F1.out f12 f13 hz3 ?_; intro v1 w1_ hown1 hbw1)
      have st1 : St w.heap.size w.heap.size w1 w1_ := st3.base hbw1 hg1 (Nat.le_refl _)
      have hl1 := own_len_i (xs := L) own3
      have hown2 : w1_.ownsRow w1.heap.size 3 1 v1 (k + 1) (iv (L ++ [y])) := by rw [iv_app]; exact hown1
      have hP2 := getD_app L k y hl1 (fun v => 1 ≤ v ∧ v ≤ 120) HP.out hPy
      have hz1' : w1.heap.size ≤ w1_.heap.size := Nat.le_trans hz3 hbw1.size
      clear hown1 hbw1 own3 st3 hz3 f12 f13
      go_wp2
      go_roundw
      case rel => exact ⟨k + 1, m - 1, L ++ [y], by omega, by omega, by go_num, hown2, hP2, st1, hz1'⟩
      case measure => simp [intOf]; omega
    · obtain rfl : m = 0 := by omega
      go_wp2
      go_ret
      exact ⟨A1, c1, k, L, rfl, by omega, hP, reads_own_i hown, own_cap0 hown, HB1.out.trans (below_of_only hst.2 (Nat.le_refl _) (by omega))⟩
end Go.Proofs.Ythndjpklfgcpmaa
