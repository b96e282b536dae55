/- The walk of the law FnPortions. -/
import Derived.Test.YtfnkbbiphloaeaaA03
import Derived.Test.YtfnkbbiphloaeaaDrw
import Derived.Test.YtfnkbbiphloaeaaAll
import Derived.Test.YtfnkbbiphloaeaaAt
import Derived.Test.YtfnkbbiphloaeaaQuiet
import Derived.BigQuiet
import Derived.Deep.QuietTactic
namespace Go.Proofs.Ytfnkbbiphloaeaa
open Go.ChangeShapes Go.WideShapes Go.ChangeAt Go.RowKit
set_option linter.unusedVariables false
set_option linter.unusedSimpArgs false
set_option maxHeartbeats 2000000

theorem firstG_min (p : Int → Bool) (k : Nat) : ∀ g x : Int, g ≤ x → x < firstG p k g → p x = false := by
  induction k with
  | zero => intro g x h1 h2; simp [firstG] at h2; omega
  | succ k ih =>
    intro g x h1 h2
    rw [firstG] at h2
    split at h2
    · omega
    · rename_i hp
      by_cases e : x = g
      · subst e; simpa using hp
      · exact ih (g + 1) x (by omega) h2
theorem dough_facts {a l : Int} (h : loafB a l = true) : a ≤ bk (doughV a l) l ∧ bk (doughV a l - 1) l < a ∧ a ≤ doughV a l := by
  have hin := dough_in a l h
  have hl := loaf_in h
  have h1 : doughV a l = firstG (leastP a l) 10000 0 := by rw [doughV, if_pos h]
  have h2 := firstG_at (leastP a l) 10000 0 (by have := bk_top a l h; simp [leastP]; exact this)
  rw [← h1] at h2
  have h3 := firstG_min (leastP a l) 10000 0 (doughV a l - 1) (by omega) (by rw [← h1]; omega)
  have h4 := h2.2.2
  simp only [leastP, decide_eq_true_eq, decide_eq_false_iff_not] at h3 h4
  have h5 := bk_le (doughV a l) l (by omega) (by omega)
  omega
theorem all_two {a l x y : Int} (h : loafB a l = true) (hx : 0 ≤ x ∧ x ≤ 49) (hy : 0 ≤ y ∧ y ≤ 49) : allV 2 2 [⟨a, l⟩, ⟨a, l⟩] [x, y] = (x + y) * doughV a l := by
  have h1 : inB x 0 500 = true := inB_t (by omega)
  have h2 : inB y 0 500 = true := inB_t (by omega)
  have hk : allOk (lOk [⟨a, l⟩, ⟨a, l⟩] [x, y]) 2 = true := by simp [allOk, lOk, h, h1, h2]
  rw [allV, if_pos ⟨by omega, rfl, hk⟩]
  simp [sumTo, lG]
  rw [Int.add_mul, Int.mul_comm x, Int.mul_comm y]
set_option maxHeartbeats 8000000 in
set_option maxRecDepth 20000 in
theorem walk_FnPortions (a0 : Option Addr) (len0 cap0 : Nat) (z0 : List Int) (w : World) (w0 : IsRow .u8 w a0 len0 cap0 z0) :
    Calls Try.prog 6 #[.slice a0 len0 cap0] w fun e w' => e = .returned (.bool true) ∧ Below w.heap.size w w' := by
  have hb := ReadsU.of_row w0
  have hm := hb.1
  clear w0
  by_cases hbig : (1048576 : Int) < (len0 : Int)
  · go_enter Try.func6, Try.ntmps6
    go_wp2_with fail
    refine (bigU _ _ _ _ hm true (by simpa using hbig)).mono ?_
    rintro e w' ⟨rfl, rfl⟩
    go_wp2_with fail
    go_ret
    exact ⟨rfl, Below.refl _ _⟩
  have HB := Lib.hid hb
  go_enter Try.func6, Try.ntmps6
  go_wp2_with fail
  refine (bigU _ _ _ _ hm false (by simpa using hbig)).mono ?_
  rintro e w' ⟨rfl, rfl⟩
  clear hbig hm hb
  go_wp2_with fail
  refine (drawLoaf _ _ _ _ (bytes_of HB.out)).mono ?_
  rintro _ w1 ⟨x0, L, ⟨hx0, hL⟩, rfl, hb1⟩
  have hWt : 50 ≤ 50 + 4 * x0 ∧ 50 + 4 * x0 ≤ 1046 := by omega
  generalize 50 + 4 * x0 = W at *
  have hlo : loafB W L = true := by simp [loafB, inB_t (show 10 ≤ W ∧ W ≤ 5000 by omega), inB_t (show 0 ≤ L ∧ L ≤ 40 by omega)]
  have i1 : In w.heap.size w w1 := In.step (by (repeat (first | exact In.refl _ | assumption | apply In.alloc | apply In.drewN | apply In.drew | (refine In.step ?_ (by assumption))))) hb1
  have kr1 : Blk (w1.alloc (.cells #[.int .i64 W, .int .i64 L] 48)) w1.heap.size 48 #[.int .i64 W, .int .i64 L] := Blk.new w1 _ _
  have j1 : In w.heap.size w (w1.alloc (.cells #[.int .i64 W, .int .i64 L] 48)) := i1.alloc _
  obtain ⟨q1, q2, q3⟩ := dough_facts hlo
  have q4 := dough_in W L hlo
  have hl40 := loaf_in hlo
  have q5 : bakedV W L (doughV W L) = bk (doughV W L) L := by rw [bakedV, hlo, inB_t (show 0 ≤ doughV W L ∧ doughV W L ≤ 10000 by omega)]; rfl
  have q6 : bakedV W L (doughV W L - 1) = bk (doughV W L - 1) L := by rw [bakedV, hlo, inB_t (show 0 ≤ doughV W L - 1 ∧ doughV W L - 1 ≤ 10000 by omega)]; rfl
  have q7 : bakedV W L 0 = 0 := by
    rw [bakedV, hlo, inB_t (show (0 : Int) ≤ 0 ∧ (0 : Int) ≤ 10000 by omega)]
    simp [bk]
  have q8 : ∀ D, 0 ≤ D ∧ D ≤ 1000000 → loavesV W L D = D / doughV W L := fun D hD => by rw [loavesV, hlo, inB_t hD]; rfl
  have q9 : ∀ x y, 0 ≤ x ∧ x ≤ 49 → 0 ≤ y ∧ y ≤ 49 → allV 2 2 [⟨W, L⟩, ⟨W, L⟩] [x, y] = (x + y) * doughV W L := fun x y hx hy => all_two hlo hx hy
  have HDF := Lib.hid (fun W' => iDoughFor W L W')
  generalize doughV W L = N at *
  have HQ1 := Lib.hid q1
  have HQ2 := Lib.hid q2
  have HQ5 := Lib.hid q5
  have HQ6 := Lib.hid q6
  have HQ7 := Lib.hid q7
  have HQ8 := Lib.hid q8
  have HQ9 := Lib.hid q9
  have HLO := Lib.hid hlo
  clear hb1 i1 q1 q2 q5 q6 q7 q8 q9 hlo
  go_wp2_with fail
  refine (HDF.out _).mono ?_
  rintro _ w2 ⟨rfl, hb2⟩
  have kr2 := kr1.step hb2
  have j2 := j1.step hb2
  have c20 := kr2.cell 0
  have c21 := kr2.cell 1
  simp at c20 c21
  clear kr1 j1 hb2 HDF
  go_wp2_with fail
  refine (at_c _ _ _ 0 _ (by omega) (by omega) (HB.out.in_ j2)).mono ?_
  rintro e w' ⟨y0, hy0, rfl, rfl⟩
  go_wp2_with fail
  have hD : 0 ≤ y0 * 20 ∧ y0 * 20 ≤ 1000000 := by omega
  have hD2 : y0 * 20 ≤ 5100 := by omega
  generalize y0 * 20 = D at *
  refine (iLoavesFrom W L D _).mono ?_
  rintro _ w3 ⟨rfl, hb3⟩
  rw [HQ8.out D hD]
  have hK0 : 0 ≤ D / N := Int.ediv_nonneg (by omega) (by omega)
  have hK1 : D / N * N ≤ D := Int.ediv_mul_le D (by omega)
  have hK2 : D < (D / N + 1) * N := Int.lt_ediv_add_one_mul_self D (by omega)
  have hK3 : D / N ≤ D := Int.ediv_le_self N (by omega)
  have hK4 : (D / N + 1) * N = D / N * N + N := by rw [Int.add_mul]; omega
  generalize D / N = K at *
  have kr3 := kr2.step hb3
  have j3 := j2.step hb3
  have c30 := kr3.cell 0
  have c31 := kr3.cell 1
  simp at c30 c31
  clear kr2 j2 hb3 c20 c21
  go_wp2_with fail
  refine (at_c _ _ _ 1 _ (by omega) (by omega) (HB.out.in_ j3)).mono ?_
  rintro e w' ⟨y1, hy1, rfl, rfl⟩
  have hA : 0 ≤ y1 % 50 ∧ y1 % 50 ≤ 49 := by omega
  go_wp2_with fail
  refine (at_c _ _ _ 2 _ (by omega) (by omega) (HB.out.in_ j3)).mono ?_
  rintro e w' ⟨y2, hy2, rfl, rfl⟩
  have hC : 0 ≤ y2 % 50 ∧ y2 % 50 ≤ 49 := by omega
  go_wp2_with fail
  generalize y1 % 50 = a at *
  generalize y2 % 50 = b at *
  have HB1 := Lib.hid (fun W' => iBakedWeight W L N W')
  have HB2 := Lib.hid (fun W' => iBakedWeight W L (N - 1) W')
  rw [HQ5.out] at HB1
  rw [HQ6.out] at HB2
  have d2 : decide (bk N L < W) = false := by have := HQ1.out; simp; omega
  have d3 : decide (W ≤ bk (N - 1) L) = false := by have := HQ2.out; simp; omega
  generalize bk N L = B1 at *
  generalize bk (N - 1) L = B2 at *
  obtain ⟨KN, hKN⟩ : ∃ KN, K * N = KN := ⟨_, rfl⟩
  rw [hKN] at hK1 hK4
  rw [hK4] at hK2
  have wp1 : IntKind.i64.wrap (N - 1) = N - 1 := IntWalk.i64_in _ (by omega)
  have wp2 : IntKind.i64.wrap (K + 1) = K + 1 := IntWalk.i64_in _ (by omega)
  have hKN0 : 0 ≤ KN := by rw [← hKN]; exact Int.mul_nonneg hK0 (by omega)
  have wp3 : IntKind.i64.wrap (K * N) = KN := by rw [hKN]; exact IntWalk.i64_in _ (by omega)
  have wp4 : IntKind.i64.wrap ((K + 1) * N) = KN + N := by rw [hK4]; exact IntWalk.i64_in _ (by omega)
  have d1 : decide (N < W) = false := by simp; omega
  have d4 : decide (D < KN) = false := by simp; omega
  have d5 : decide (KN + N ≤ D) = false := by simp; omega
  have HC := Lib.hid (show ∀ W', In w.heap.size w W' ∧ W'.cell? ⟨w1.heap.size, 0, none⟩ = some (.int .i64 W) ∧ W'.cell? ⟨w1.heap.size, 1, none⟩ = some (.int .i64 L) → ∀ W2, Below W'.heap.size W' W2 → In w.heap.size w W2 ∧ W2.cell? ⟨w1.heap.size, 0, none⟩ = some (.int .i64 W) ∧ W2.cell? ⟨w1.heap.size, 1, none⟩ = some (.int .i64 L) from fun W' h W2 hb => ⟨h.1.step hb, cell_in h.2.1 ⟨hb, hb.size⟩, cell_in h.2.2 ⟨hb, hb.size⟩⟩)
  clear hKN hK1 hK2 hK3 hK4 hK0 q3 hy1 hy2 hy0 HQ1 HQ2 HQ5 HQ6 HQ8 HB
  refine wp_region_S (C := (fun w' => In w.heap.size w w' ∧ w'.cell? ⟨w1.heap.size, 0, none⟩ = some (.int .i64 W) ∧ w'.cell? ⟨w1.heap.size, 1, none⟩ = some (.int .i64 L))) (by kernel_rfl) (by kernel_rfl) ?_ ?_
  · exact ⟨j3.drew, c30, c31⟩
  repeat (first | go_big_quiet_skip | (go_big_quiet_want; first | (refine quiet_ex ?_; apply Exists.intro; refine ⟨fun W hW => ?_, ?_⟩; (· (obtain ⟨i4, f0, f1⟩ := hW; go_simp; (first | done | with_reducible rfl | rfl))); simp only [Act.put, List.setIfInBounds_toArray, List.set_cons_zero, List.set_cons_succ]; go_big_quiet_on) | (refine quiet_ex ?_; apply Exists.intro; refine ⟨fun W hW => ?_, ?_⟩; (· (go_simp; first | (go_at_call 34; (first | (with_reducible refine (HB1.out _).mono ?_) | (with_reducible refine (HB2.out _).mono ?_)); rintro e w2 ⟨rfl, hb2⟩; exact ⟨rfl, HC.out _ hW _ hb2⟩))); simp only [Act.put, List.setIfInBounds_toArray, List.set_cons_zero, List.set_cons_succ]; go_big_quiet_on)))
  refine wpQuiet_nil ?_
  rintro w' ⟨i4, f0, f1⟩
  obtain ⟨w4, rfl⟩ : ∃ w4, w4 = w' := ⟨_, rfl⟩
  clear HC HB1 HB2 wp1 wp2 wp3 wp4 d1 d2 d3 d4 d5 c30 c31 kr3 j3 hKN0
  have kl : Blk ((w4.alloc (.cells #[.int .i64 W, .int .i64 L, .int .i64 W, .int .i64 L] 48)).alloc (.cells #[.int .i64 a, .int .i64 b] 3)) w4.heap.size 48 #[.int .i64 W, .int .i64 L, .int .i64 W, .int .i64 L] := (Blk.new w4 _ _).alloc _
  have hrl : ReadsLoaf ((w4.alloc (.cells #[.int .i64 W, .int .i64 L, .int .i64 W, .int .i64 L] 48)).alloc (.cells #[.int .i64 a, .int .i64 b] 3)) (some ⟨w4.heap.size, 0, none⟩) 2 [⟨W, L⟩, ⟨W, L⟩] := by
    refine ⟨rfl, fun k hk => ⟨_, rfl, ?_⟩⟩
    rcases (by omega : k = 0 ∨ k = 1) with rfl | rfl
    · have h0 := kl.cell 0
      have h1 := kl.cell 1
      simp at h0 h1
      simp only [Addr.add_lit, Nat.zero_add, Nat.zero_mul]
      exact ⟨by simp, by simp⟩
    · have h0 := kl.cell 2
      have h1 := kl.cell 3
      simp at h0 h1
      simp only [Addr.add_lit, Nat.zero_add, Nat.one_mul]
      exact ⟨by simp, by simp⟩
  have hry : ReadsI ((w4.alloc (.cells #[.int .i64 W, .int .i64 L, .int .i64 W, .int .i64 L] 48)).alloc (.cells #[.int .i64 a, .int .i64 b] 3)) (some ⟨w4.heap.size + 1, 0, none⟩) 2 [a, b] := reads_at _ 3 #[.int .i64 a, .int .i64 b] [a, b] (w4.heap.size + 1) (by simp) rfl
  have i5 : In w.heap.size w ((w4.alloc (.cells #[.int .i64 W, .int .i64 L, .int .i64 W, .int .i64 L] 48)).alloc (.cells #[.int .i64 a, .int .i64 b] 3)) := (i4.alloc _).alloc _
  have kr5 : ∀ W2, Below w4.heap.size w4 W2 → W2.cell? ⟨w1.heap.size, 0, none⟩ = some (.int .i64 W) ∧ W2.cell? ⟨w1.heap.size, 1, none⟩ = some (.int .i64 L) := fun W2 hb => ⟨cell_in f0 ⟨hb, hb.size⟩, cell_in f1 ⟨hb, hb.size⟩⟩
  have hbl : Below w4.heap.size w4 ((w4.alloc (.cells #[.int .i64 W, .int .i64 L, .int .i64 W, .int .i64 L] 48)).alloc (.cells #[.int .i64 a, .int .i64 b] 3)) := ((Below.refl _ w4).alloc (Nat.le_refl _) _).alloc (by simp) _
  have HFA := Lib.hid (iDoughForAll (some ⟨w4.heap.size, 0, none⟩) 2 2 [⟨W, L⟩, ⟨W, L⟩] (some ⟨w4.heap.size + 1, 0, none⟩) 2 2 [a, b] _ (by unfold maxLen; omega) hrl (by unfold maxLen; omega) hry)
  rw [HQ9.out a b hA hC] at HFA
  have m1 := mul_in (a := a + b) (b := N) (A := 98) (B := 10000) (by omega) (by omega) (by omega) (by omega)
  have hP : wrap64 ((a + b) * N) = (a + b) * N := w64 (by omega)
  have KR := Lib.hid kr5
  have HBL := Lib.hid hbl
  clear kl hrl hry kr5 hbl i4
  go_wp2_with fail
  refine HFA.out.mono ?_
  rintro _ w5 ⟨rfl, hb5⟩
  have HB5 : Hid (Below w4.heap.size w4 w5) := Lib.hid (HBL.out.trans (hb5.mono HBL.out.size))
  have i6 := i5.step hb5
  obtain ⟨f50, f51⟩ := KR.out w5 HB5.out
  clear hb5 i5 HBL HFA f0 f1
  go_wp2_with fail
  refine (iDoughForAll none 0 0 [] none 0 0 [] _ (Nat.zero_le _) ⟨rfl, fun k hk => absurd hk (Nat.not_lt_zero _)⟩ (Nat.zero_le _) ⟨rfl, fun k hk => absurd hk (Nat.not_lt_zero _)⟩).mono ?_
  rintro _ w6 ⟨rfl, hb6⟩
  rw [show allV 0 0 [] [] = 0 by simp [allV, allOk, sumTo]]
  have i7 := i6.step hb6
  have HB6 : Hid (Below w4.heap.size w4 w6) := Lib.hid (HB5.out.trans (hb6.mono HB5.out.size))
  obtain ⟨f60, f61⟩ := KR.out w6 HB6.out
  clear hb6 i6 HB5 f50 f51
  go_wp2_with fail
  refine (iBakedWeight W L 0 _).mono ?_
  rintro _ w7 ⟨rfl, hb7⟩
  rw [HQ7.out]
  have i8 := i7.step hb7
  have HB7 : Hid (Below w4.heap.size w4 w7) := Lib.hid (HB6.out.trans (hb7.mono HB6.out.size))
  obtain ⟨f70, f71⟩ := KR.out w7 HB7.out
  clear hb7 i7 HB6 f60 f61
  go_wp2_with fail
  refine (iLoafOk W L _).mono ?_
  rintro _ w8 ⟨rfl, hb8⟩
  rw [HLO.out]
  have i9 := i8.step hb8
  clear hb8 i8 f70 f71
  go_wp2_with fail
  refine (iBakedWeight 500 15 589 _).mono ?_
  rintro _ w9 ⟨rfl, hb9⟩
  rw [show bakedV 500 15 589 = 500 by decide]
  have i10 := i9.step hb9
  clear hb9 i9
  go_wp2
  go_ret
  exact ⟨ret_bool rfl, i10.below⟩
end Go.Proofs.Ytfnkbbiphloaeaa
