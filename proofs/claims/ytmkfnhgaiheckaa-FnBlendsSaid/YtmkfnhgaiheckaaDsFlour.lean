/- Drawers of rows of Flour. -/
import Derived.Test.YtmkfnhgaiheckaaDl0
import Derived.Test.YtmkfnhgaiheckaaSFlour
import Derived.Test.YtmkfnhgaiheckaaC27
import Derived.Test.YtmkfnhgaiheckaaDrw
namespace Go.Proofs.Ytmkfnhgaiheckaa
open Go.ChangeShapes Go.WideShapes Go.ChangeAt Go.RowKit
set_option linter.unusedVariables false
set_option linter.unusedSimpArgs false
set_option maxHeartbeats 2000000

theorem own_shape_2 {w : World} {base n : Nat} {e : TypeId} {v : Value} {size : Nat} {xs : List Value} (h : w.ownsRow base e size v n xs) : ∃ A c, v = .slice A n c := own_shape_i h
theorem own_cap' {w : World} {base n c size : Nat} {e : TypeId} {A : Option Addr} {xs : List Value} (h : w.ownsRow base e size (.slice A n c) n xs) : n ≤ c := by
  rcases h.2 with ⟨h1, h2⟩ | ⟨g, cap, cur, hv, hg, hh, hnc, _⟩
  · omega
  · injection hv with _ _ h3; omega
def flFlour (xs : List FlourR) : List Value := xs.flatMap fun e => [.int .i64 e.f0, .int .i64 e.f1, .int .i64 e.f2]
theorem flFlour_app (xs ys : List FlourR) : flFlour (xs ++ ys) = flFlour xs ++ flFlour ys := by simp [flFlour]
theorem flFlour_len (xs : List FlourR) : (flFlour xs).length = xs.length * 3 := by
  induction xs with
  | nil => rfl
  | cons x xs ih => simp only [flFlour, List.flatMap_cons, List.length_append, List.length_cons, List.length_nil] at ih ⊢; omega
theorem flFlour_at (xs : List FlourR) : ∀ k, k < xs.length → (flFlour xs)[k * 3]? = some (.int .i64 (xs.getD k ⟨0, 0, 0⟩).f0) ∧ (flFlour xs)[k * 3 + 1]? = some (.int .i64 (xs.getD k ⟨0, 0, 0⟩).f1) ∧ (flFlour xs)[k * 3 + 2]? = some (.int .i64 (xs.getD k ⟨0, 0, 0⟩).f2) := by
  induction xs with
  | nil => intro k hk; simp at hk
  | cons x xs ih =>
    intro k hk
    cases k with
    | zero => simp [flFlour]
    | succ k =>
      have h := ih k (by simpa using hk)
      have e0 : (k + 1) * 3 = k * 3 + 3 := by omega
      have e1 : (k + 1) * 3 + 1 = k * 3 + 1 + 3 := by omega
      have e2 : (k + 1) * 3 + 2 = k * 3 + 2 + 3 := by omega
      simp only [flFlour, List.flatMap_cons, e0, e1, e2, List.getD_cons_succ] at h ⊢
      refine ⟨?_, ?_, ?_⟩ <;> (rw [List.getElem?_append_right (by simp)]; simp only [List.length_cons, List.length_nil, Nat.zero_add, Nat.add_sub_cancel])
      · exact h.1
      · exact h.2.1
      · exact h.2.2
theorem reads_own_Flour {w : World} {base n c : Nat} {A : Option Addr} {xs : List FlourR} (hl : xs.length = n) (h : w.ownsRow base 56 3 (.slice A n c) n (flFlour xs)) : ReadsFlour w A n xs := by
  refine ⟨hl, fun k hk => ?_⟩
  obtain ⟨g, cap, hv, _, _⟩ := h.form (by omega)
  injection hv with h1 h2 h3
  subst h1 h3
  have hf := flFlour_at xs k (by omega)
  have c0 := h.cellAt (k * 3) (by omega)
  rw [hf.1] at c0
  have c1 := h.cellAt (k * 3 + 1) (by omega)
  rw [hf.2.1] at c1
  have c2 := h.cellAt (k * 3 + 2) (by omega)
  rw [hf.2.2] at c2
  refine ⟨_, rfl, ?_, ?_, ?_⟩
  · rw [Addr.add_lit, Nat.zero_add]; exact c0
  · simp only [Addr.add_lit, Nat.zero_add]; exact c1
  · simp only [Addr.add_lit, Nat.zero_add]; exact c2
theorem infoDsFlour : (Try.prog.info? 56).map (fun i => (i.zero, i.size, i.bytes)) = some (some (.agg #[.int .i64 0, .int .i64 0, .int .i64 0]), 3, 24) := by kernel_rfl
theorem own_new3 (w : World) (t : TypeId) (B : Nat) (hB : B ≤ w.heap.size) : (w.alloc (.cells #[] t)).ownsRow B t 3 (.slice (some ⟨w.heap.size, 0, none⟩) 0 0) 0 [] :=
  ⟨by simp, .inr ⟨w.heap.size, 0, #[], rfl, hB, heap_alloc_new w _, Nat.le_refl _, Nat.zero_le _, by simp, by simp⟩⟩
/-- a row of Flour, drawn -/
def GotFlourS (B g : Nat) (W0 w : World) (lo hi : Nat) (P : FlourR → Prop) (e : Ending) (w' : World) : Prop :=
  ∃ (A : Option Addr) (c n : Nat) (xs : List FlourR), e = .returned (.slice A n c) ∧ lo ≤ n ∧ n ≤ hi ∧ xs.length = n ∧ (∀ i, i < n → P (xs.getD i ⟨0, 0, 0⟩)) ∧ w'.ownsRow w.heap.size 56 3 (.slice A n c) n (flFlour xs) ∧ St B g W0 w'
theorem getD_app_Flour (L : List FlourR) (m : Nat) (v : FlourR) (hl : L.length = m) (P : FlourR → Prop) (h : ∀ i, i < m → P (L.getD i ⟨0, 0, 0⟩)) (hv : P v) : ∀ i, i < m + 1 → P ((L ++ [v]).getD i ⟨0, 0, 0⟩) := fun i hi => by
  by_cases e : i < m
  · rw [show (L ++ [v]).getD i ⟨0, 0, 0⟩ = L.getD i ⟨0, 0, 0⟩ by simp [List.getD_eq_getElem?_getD, List.getElem?_append_left (by omega : i < L.length)]]
    exact h i e
  · obtain rfl : i = m := by omega
    rw [show (L ++ [v]).getD i ⟨0, 0, 0⟩ = v by simp [List.getD_eq_getElem?_getD, List.getElem?_append_right (by omega : L.length ≤ i), hl]]
    exact hv
set_option maxHeartbeats 2000000 in
set_option maxRecDepth 10000 in
theorem l27List_s (B g : Nat) (W0 w : World) (h : St B g W0 w) : Calls Try.prog 121 #[.pointer (some ⟨g, 0, none⟩)] w (GotFlourS B g W0 w 1 4 (fun v => (100 ≤ v.f0 ∧ v.f0 ≤ 345) ∧ (1 ≤ v.f1 ∧ v.f1 ≤ 20) ∧ 0 ≤ v.f2 ∧ v.f2 ≤ 29)) := by
  obtain ⟨i0, hi0, hiz, his, hib⟩ := info_parts infoDsFlour
  have hgl := h.1.lt
  have h0w := h.2.size
  have hs0 : St B g W0 (w.alloc (.cells #[] 56)) := h.alloc _
  have own0 := own_new3 w 56 w.heap.size (Nat.le_refl _)
  obtain ⟨W1, hW1⟩ : ∃ W1, W1 = w.alloc (.cells #[] 56) := ⟨_, rfl⟩
  rw [← hW1] at hs0 own0
  have hsz : W1.heap.size = w.heap.size + 1 := by rw [hW1]; simp
  go_enter Try.func121, Try.ntmps121
  go_wp2_with fail
  rw [← hW1]
  refine (below_s 4 B g W1 W1 (by omega) (by omega) ⟨hs0.1, only_refl _ _⟩).mono ?_
  rintro _ w2 ⟨n0, ⟨hn0, hn1⟩, rfl, hs2⟩
  have own2 := own_only own0 hs2.2 hgl
  have st2 : St B g W0 w2 := ⟨hs2.1, only_trans hs0.2 hs2.2⟩
  have hz2' : w.heap.size ≤ w2.heap.size := by have := hs2.2.size; omega
  obtain ⟨n, hn⟩ : ∃ n : Nat, 1 + n0 = n := ⟨(1 + n0).toNat, by omega⟩
  have HN := Lib.hid hn
  have hnl : 1 ≤ n ∧ n ≤ 4 := by omega
  have hw7 : wrap64 (1 + n0) = 1 + n0 := w64 ⟨by omega, by omega⟩
  clear hs0 own0 hs2 hn
  go_wp2
  rw [HN.out]
  clear hn0 hn1
  go_loopw [3, 5] (fun v i wr => ∃ (k : Nat) (L : List FlourR), k ≤ n ∧ i = .int .i64 k ∧ L.length = k ∧ wr.ownsRow w.heap.size 56 3 v k (flFlour L) ∧ (∀ i, i < k → (fun v : FlourR => (100 ≤ v.f0 ∧ v.f0 ≤ 345) ∧ (1 ≤ v.f1 ∧ v.f1 ≤ 20) ∧ 0 ≤ v.f2 ∧ v.f2 ≤ 29) (L.getD i ⟨0, 0, 0⟩)) ∧ St B g W0 wr ∧ w.heap.size ≤ wr.heap.size) (fun _ i _ => n - (intOf i).toNat)
  case atStart => exact ⟨0, [], Nat.zero_le _, rfl, rfl, own2, fun i hi => absurd hi (Nat.not_lt_zero _), st2, hz2'⟩
  case round =>
    clear own2 st2 hz2'
    obtain ⟨k, L, hk, rfl, hL, own0, hP, st0, hz0'⟩ := hrel
    obtain ⟨A1, c1, rfl⟩ := own_shape_i own0
    by_cases hlt : k < n
    · have HP := Lib.hid hP
      clear hP
      have hk40 : k ≤ 1000 := by omega
      have hz0 := hz0'
      clear hz0'
      obtain ⟨v0, hv0⟩ : ∃ v0, v0 = wr := ⟨_, rfl⟩
      subst hv0
      go_wp2_with fail
      refine (below_s 50 B g v0 v0 (by omega) (by omega) ⟨st0.1, only_refl _ _⟩).mono ?_
      rintro _ v1 ⟨x, ⟨hx0, hx1⟩, rfl, hs0⟩
      have own1 := own_only own0 hs0.2 hgl
      have st1 : St B g W0 v1 := ⟨hs0.1, only_trans st0.2 hs0.2⟩
      have hz1 : w.heap.size ≤ v1.heap.size := Nat.le_trans hz0 hs0.2.size
      clear own0 st0 hs0 hz0
      go_wp2_with fail
      refine (below_s 20 B g v1 v1 (by omega) (by omega) ⟨st1.1, only_refl _ _⟩).mono ?_
      rintro _ v2 ⟨y, ⟨hy0, hy1⟩, rfl, hs1⟩
      have own2 := own_only own1 hs1.2 hgl
      have st2 : St B g W0 v2 := ⟨hs1.1, only_trans st1.2 hs1.2⟩
      have hz2 : w.heap.size ≤ v2.heap.size := Nat.le_trans hz1 hs1.2.size
      clear own1 st1 hs1 hz1
      go_wp2_with fail
      refine (below_s 30 B g v2 v2 (by omega) (by omega) ⟨st2.1, only_refl _ _⟩).mono ?_
      rintro _ v3 ⟨z, ⟨hz0, hz1⟩, rfl, hs2⟩
      have own3 := own_only own2 hs2.2 hgl
      have st3 : St B g W0 v3 := ⟨hs2.1, only_trans st2.2 hs2.2⟩
      have hz3 : w.heap.size ≤ v3.heap.size := Nat.le_trans hz2 hs2.2.size
      clear own2 st2 hs2 hz2
      obtain ⟨y0, hy0⟩ : ∃ q9 : Int, 100 + 5 * x = q9 := ⟨_, rfl⟩
      obtain ⟨y1, hy1⟩ : ∃ q9 : Int, 1 + y = q9 := ⟨_, rfl⟩
      obtain ⟨y2, hy2⟩ : ∃ q9 : Int, z = q9 := ⟨_, rfl⟩
      have hPy : (fun v : FlourR => (100 ≤ v.f0 ∧ v.f0 ≤ 345) ∧ (1 ≤ v.f1 ∧ v.f1 ≤ 20) ∧ 0 ≤ v.f2 ∧ v.f2 ≤ 29) ⟨y0, y1, y2⟩ := by simp only []; omega
      have F1 : Hid (∀ u ∈ (#[Value.int .i64 y0, Value.int .i64 y1, Value.int .i64 y2] : Array Value).toList, u.oneCell' = true) := Lib.hid (by intro u hu; simp at hu; rcases hu with rfl | rfl | rfl <;> rfl)
      have f12 : k + 1 ≤ maxLen := by unfold maxLen; omega
      have f13 : (k + 1) * 24 ≤ 140737488355328 := by omega
      go_wp2_with (at_builtin; refine wpList_app v3 rfl (.tmp 15) (.tmp 26) 37 rfl w.heap.size 56 i0 (.agg #[.int .i64 0, .int .i64 0, .int .i64 0]) 3 24 Try.underlying37 hi0 hiz his hib rfl (by omega) (.slice A1 k c1) k (flFlour L) rfl own3 1 #[Value.int .i64 y0, Value.int .i64 y1, Value.int .i64 y2] rfl rfl F1.out f12 f13 hz3 ?_; intro v1_ w1 hown1 hbw1)
      have st1_ : St B g W0 w1 := st3.base hbw1 hgl (Nat.le_trans h0w (Nat.le_refl _))
      have hown2 : w1.ownsRow w.heap.size 56 3 v1_ (k + 1) (flFlour (L ++ [⟨y0, y1, y2⟩])) := by rw [flFlour_app]; exact hown1
      have hP2 := getD_app_Flour L k ⟨y0, y1, y2⟩ hL (fun v : FlourR => (100 ≤ v.f0 ∧ v.f0 ≤ 345) ∧ (1 ≤ v.f1 ∧ v.f1 ≤ 20) ∧ 0 ≤ v.f2 ∧ v.f2 ≤ 29) HP.out hPy
      have hz1_ : w.heap.size ≤ w1.heap.size := Nat.le_trans hz3 hbw1.size
      clear hown1 hbw1 own3 st3 hz3 f12 f13
      go_wp2
      go_roundw
      case rel => exact ⟨k + 1, L ++ [⟨y0, y1, y2⟩], by omega, by go_num, by simp [hL], hown2, hP2, st1_, hz1_⟩
      case measure => simp [intOf]; omega
    · obtain rfl : k = n := by omega
      go_wp2
      go_ret
      exact ⟨A1, c1, k, L, rfl, hnl.1, hnl.2, hL, hP, own0, st0⟩
theorem DrawFlours_c (a : Option Addr) (len cap : Nat) (w : World) (hb : Bytes w w.heap.size a len) :
    Calls Try.prog 37 #[.slice a len cap] w (fun e w' => ∃ (A : Option Addr) (c n : Nat) (xs : List FlourR), e = .returned (.slice A n c) ∧ (1 ≤ n ∧ n ≤ 4) ∧ (∀ i, i < n → (fun v : FlourR => (100 ≤ v.f0 ∧ v.f0 ≤ 345) ∧ (1 ≤ v.f1 ∧ v.f1 ≤ 20) ∧ 0 ≤ v.f2 ∧ v.f2 ≤ 29) (xs.getD i ⟨0, 0, 0⟩)) ∧ xs.length = n ∧ w'.ownsRow w.heap.size 56 3 (.slice A n c) n (flFlour xs) ∧ n ≤ c ∧ Below w.heap.size w w') := by
  have HN := Lib.hid (new_s a len cap w hb)
  go_enter Try.func37, Try.ntmps37
  go_wp2_with fail
  refine HN.out.mono ?_
  rintro _ w1 ⟨rfl, hc, hb1⟩
  go_wp2_with fail
  refine (l27List_s w.heap.size w.heap.size w1 w1 ⟨hc, only_refl _ _⟩).mono ?_
  rintro _ w2 ⟨A, c, n, xs, rfl, h1, h2, hl, hP, hown, hs⟩
  have hs2 := hs.2
  go_wp2
  go_ret
  refine ⟨A, c, n, xs, rfl, ⟨h1, h2⟩, hP, hl, own_base hown hb1.size, own_cap' hown, ?_⟩
  exact hb1.trans (below_of_only hs2 (Nat.le_refl _) hb1.size)
end Go.Proofs.Ytmkfnhgaiheckaa
