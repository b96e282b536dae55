/- The law FnWeighings. -/
import Derived.Test.YtoljdgmfpebhdaaDoorU30
import Derived.Test.YtoljdgmfpebhdaaDoorF30
import Derived.Test.YtoljdgmfpebhdaaDoorDrw
import Derived.Test.YtoljdgmfpebhdaaDoorAtAll
import Derived.Test.YtoljdgmfpebhdaaDoorQuietL
import Derived.BigQuiet
import Derived.Deep.QuietTactic
namespace Go.Proofs.YtoljdgmfpebhdaaDoor
open Go.ChangeShapes Go.WideShapes Go.ChangeAt Go.RowKit
set_option linter.unusedVariables false
set_option linter.unusedSimpArgs false
set_option maxHeartbeats 2000000

/-- what the law weighs -/
theorem weigh_law {a b c f : Int} (ha : 550 ≤ a ∧ a ≤ 799) (hb : 15 ≤ b ∧ b ≤ 24) (hc : 0 ≤ c ∧ c ≤ 249) (hf : 100 ≤ f ∧ f ≤ 1120) :
    pOk a b c f ∧ ∃ x y z n : Int, partV f a = x ∧ partV f b = y ∧ partV f c = z ∧ weightV a b c f = n ∧ (n ≤ f + x + y + z ∧ f + x + y + z ≤ n) ∧ (55 ≤ x ∧ x ≤ 900) ∧ (2 ≤ y ∧ y ≤ 30) ∧ (0 ≤ z ∧ z ≤ 300) ∧ y < x ∧ z < x := by
  have hd : dOk a b c = true := by simp [dOk]; omega
  have hp : pOk a b c f := ⟨hd, by omega, by omega⟩
  have m1 : 0 ≤ f * a ∧ f * a ≤ 1120 * 799 := mul_in (by omega) (by omega) (by omega) (by omega)
  have m2 : 100 * 550 ≤ f * a := by have := Int.mul_le_mul hf.1 ha.1 (by omega) (by omega); exact this
  have m3 : 100 * 15 ≤ f * b := by have := Int.mul_le_mul hf.1 hb.1 (by omega) (by omega); exact this
  have m4 : f * b ≤ f * 24 := Int.mul_le_mul_of_nonneg_left hb.2 (by omega)
  have m5 : f * c ≤ f * 249 := Int.mul_le_mul_of_nonneg_left hc.2 (by omega)
  have m6 : 0 ≤ f * c := Int.mul_nonneg (by omega) hc.1
  have m7 : f * 550 ≤ f * a := Int.mul_le_mul_of_nonneg_left ha.1 (by omega)
  refine ⟨hp, _, _, _, _, rfl, rfl, rfl, rfl, by rw [weight_is hd (by omega) (by omega)]; exact ⟨Int.le_refl _, Int.le_refl _⟩, ?_⟩
  rw [part_nn (by omega) (by omega), part_nn (by omega) (by omega), part_nn (by omega) (by omega)]
  generalize f * a = A at *
  generalize f * b = B at *
  generalize f * c = C at *
  omega
theorem weight_strict {a b c f g : Int} (hd : dOk a b c = true) (hf : 0 ≤ f) (h : f < g) (hg : g ≤ 1000000) : weightV a b c f < weightV a b c g := by
  have d := d_in hd
  rw [weight_is hd hf (by omega), weight_is hd (by omega) hg]
  have p1 := part_mono (p := a) hf (by omega : f ≤ g) hg (by omega)
  have p2 := part_mono (p := b) hf (by omega : f ≤ g) hg (by omega)
  have p3 := part_mono (p := c) hf (by omega : f ≤ g) hg (by omega)
  omega
theorem fof_law {a b c f n : Int} (hd : dOk a b c = true) (hf : 0 ≤ f ∧ f ≤ 5000) (hn : weightV a b c f = n) (hn0 : 0 ≤ n ∧ n ≤ 900000) :
    fofV a b c n = .tuple #[.int .i64 f, .bool true] ∧ ∃ (g : Int) (none : Bool), fofV a b c (n + 1) = .tuple #[.int .i64 g, .bool none] ∧ (none = true → weightV a b c (f + 1) = n + 1) := by
  have hge := weight_ge hd hf.1 (by omega)
  have is1 : IsFst (wP a b c n) n f := ⟨hf.1, by omega, fun i h0 h1 => by
      have := weight_strict hd h0 h1 (by omega)
      simp [wP]; omega, fun _ => by simp [wP]; omega⟩
  refine ⟨fof_yes hd (inB_t (by omega)) is1 hn, ?_⟩
  by_cases h : weightV a b c (f + 1) = n + 1
  · unfold fofV
    split
    · exact ⟨_, _, rfl, fun _ => h⟩
    · exact ⟨_, _, rfl, fun _ => h⟩
  · have hs := weight_strict hd hf.1 (show f < f + 1 by omega) (by omega)
    have hge2 := weight_ge hd (show 0 ≤ f + 1 by omega) (by omega)
    have is2 : IsFst (wP a b c (n + 1)) (n + 1) (f + 1) := ⟨by omega, by omega, fun i h0 h1 => by
      have := weight_mono hd h0 (show i ≤ f by omega) (by omega)
      simp [wP]; omega, fun _ => by simp [wP]; omega⟩
    exact ⟨0, false, fof_no is2 h, fun e => by cases e⟩
theorem miss_law {a b c f x y z n d : Int} (hp : pOk a b c f) (hx : partV f a = x) (hy : partV f b = y) (hz : partV f c = z) (hn : weightV a b c f = n) (h0 : 0 ≤ n - d) (h1 : n - d ≤ 5000000) : missV a b c f (n - d) = tl4 x y z d := by
  unfold missV partW
  rw [if_pos hp, if_pos (inB_t ⟨h0, h1⟩), hx, hy, hz, hn]
  congr 1; omega
theorem twice_law {a b c f x y z n d : Int} (hp : pOk a b c f) (hx : partV f a = x) (hy : partV f b = y) (hz : partV f c = z) (hn : weightV a b c f = n) (h0 : 0 ≤ n + d) (h1 : n + d ≤ 5000000) : twiceV a b c f (n + d) = tl4 x y z d := by
  unfold twiceV partW
  rw [if_pos hp, if_pos (inB_t ⟨h0, h1⟩), hx, hy, hz, hn]
  congr 1; omega
theorem tell_law {a b c f x y z : Int} (hp : pOk a b c f) (hx : partV f a = x) (hy : partV f b = y) (hz : partV f c = z) (h1 : y < x) (h2 : z < x) (h3 : 0 < y) (h4 : 0 ≤ z) : tellB a b c f = (decide (0 < z) && (y != z)) := by
  have e : decide (dOk a b c = true ∧ 0 ≤ f ∧ f ≤ 1000000) = true := decide_eq_true hp
  unfold tellB
  rw [e, hx, hy, hz]
  have a1 : (x != 0) = true := by simp; omega
  have a2 : (y != 0) = true := by simp; omega
  have a4 : (x != y) = true := by simp; omega
  have a5 : (x != z) = true := by simp; omega
  rw [a1, a2, a4, a5]
  by_cases hz0 : z = 0
  · simp [hz0]
  · have a3 : (z != 0) = true := by simpa using hz0
    rw [a3, decide_eq_true (show 0 < z by omega)]
    simp
set_option maxHeartbeats 8000000 in
set_option maxRecDepth 20000 in
theorem walk_FnWeighings (a0 : Option Addr) (len0 cap0 : Nat) (z0 : List Int) (w : World) (w0 : IsRow .u8 w a0 len0 cap0 z0) (hL : laidMetH Tryd.prog Rows.fnWeighingsRow.laid w) :
    Calls Tryd.prog 8 #[.slice a0 len0 cap0] w fun e w' => e = .returned (.bool true) ∧ Below w.heap.size w w' := by
  have HT := Lib.hid (errT_of hL)
  clear hL
  have hb := ReadsU.of_row w0
  have hm := hb.1
  clear w0
  by_cases hbig : (1048576 : Int) < (len0 : Int)
  · go_enter Tryd.func8, Tryd.ntmps8
    go_wp2_with fail
    refine (bigU _ _ _ _ hm true (by simpa using hbig)).mono ?_
    rintro e w' ⟨rfl, rfl⟩
    go_wp2_with fail
    go_ret
    exact ⟨rfl, Below.refl _ _⟩
  have HB := Lib.hid hb
  obtain ⟨x0, h0, A0⟩ := at_all a0 len0 cap0 0 w (by omega) (by omega) hb
  have HA0 := Lib.hid A0
  clear A0
  go_enter Tryd.func8, Tryd.ntmps8
  go_wp2_with fail
  refine (bigU _ _ _ _ hm false (by simpa using hbig)).mono ?_
  rintro e w' ⟨rfl, rfl⟩
  clear hbig hm hb
  have HH := Lib.hid HT.out
  have f0_0 : In w.heap.size w w := In.refl w
  have f0_1 := HB.out
  go_wp2_with fail
  refine (drawDough _ _ _ _ (bytes_of f0_1)).mono ?_
  rintro _ w1 ⟨y0, y1, c, ⟨hy0, hy1, hc⟩, rfl, hb1⟩
  have ha : 550 ≤ 550 + y0 ∧ 550 + y0 ≤ 799 := by omega
  have hb : 15 ≤ 15 + y1 ∧ 15 + y1 ≤ 24 := by omega
  have hc : 0 ≤ c ∧ c ≤ 249 := by omega
  generalize 550 + y0 = a at *
  generalize 15 + y1 = b at *
  clear hy0 hy1
  have f1_0 : In w.heap.size w w1 := f0_0.step hb1
  clear f0_0 f0_1
  clear hb1
  have kb2 : Blk (w1.alloc (.cells #[.int .i64 a, .int .i64 b, .int .i64 c] 34)) w1.heap.size 34 #[.int .i64 a, .int .i64 b, .int .i64 c] := Blk.new w1 _ _
  have hb2 : Below w1.heap.size w1 (w1.alloc (.cells #[.int .i64 a, .int .i64 b, .int .i64 c] 34)) := (Below.refl _ w1).alloc (Nat.le_refl _) _
  have f2_0 : In w.heap.size w (w1.alloc (.cells #[.int .i64 a, .int .i64 b, .int .i64 c] 34)) := f1_0.step hb2
  have f2_1 : (w1.alloc (.cells #[.int .i64 a, .int .i64 b, .int .i64 c] 34)).cell? ⟨w1.heap.size, 0, none⟩ = some (.int .i64 a) := kb2.cell 0
  have f2_2 : (w1.alloc (.cells #[.int .i64 a, .int .i64 b, .int .i64 c] 34)).cell? ⟨w1.heap.size, 1, none⟩ = some (.int .i64 b) := kb2.cell 1
  have f2_3 : (w1.alloc (.cells #[.int .i64 a, .int .i64 b, .int .i64 c] 34)).cell? ⟨w1.heap.size, 2, none⟩ = some (.int .i64 c) := kb2.cell 2
  clear f1_0
  clear kb2 hb2
  go_wp2_with fail
  refine (HA0.out _ f2_0).mono ?_
  rintro e w' ⟨rfl, rfl⟩
  have hf : 100 ≤ 100 + x0 * 4 ∧ 100 + x0 * 4 ≤ 1120 := by omega
  go_wp2_with fail
  generalize 100 + x0 * 4 = f at *
  clear h0 HA0 HB
  obtain ⟨hp, x, y, z, n, ex, ey, ez, en, hn, gx, gy, gz, hyx, hzx⟩ := weigh_law ha hb hc hf
  have HAM := Lib.hid (fun W => samounts_c hp W)
  rw [ex, ey, ez] at HAM
  refine (HAM.out _).mono ?_
  rintro _ w3 ⟨q, rfl, hb3, _, q1, q2, q3⟩
  have f3_0 : In w.heap.size w w3 := f2_0.step hb3
  have f3_1 : w3.cell? ⟨w1.heap.size, 0, none⟩ = some (.int .i64 a) := cell_in f2_1 ⟨hb3, hb3.size⟩
  have f3_2 : w3.cell? ⟨w1.heap.size, 1, none⟩ = some (.int .i64 b) := cell_in f2_2 ⟨hb3, hb3.size⟩
  have f3_3 : w3.cell? ⟨w1.heap.size, 2, none⟩ = some (.int .i64 c) := cell_in f2_3 ⟨hb3, hb3.size⟩
  have f3_4 : w3.cell? ⟨q, 1, none⟩ = some (.int .i64 x) := q1
  have f3_5 : w3.cell? ⟨q, 2, none⟩ = some (.int .i64 y) := q2
  have f3_6 : w3.cell? ⟨q, 3, none⟩ = some (.int .i64 z) := q3
  clear f2_0 f2_1 f2_2 f2_3
  clear hb3 q1 q2 q3 HAM
  have HWE := Lib.hid (fun W => sDoughWeight a b c f W)
  rw [en] at HWE
  go_wp2_with fail
  refine (HWE.out _).mono ?_
  rintro _ w4 ⟨rfl, hb4⟩
  have f4_0 : In w.heap.size w w4 := f3_0.step hb4
  have f4_1 : w4.cell? ⟨w1.heap.size, 0, none⟩ = some (.int .i64 a) := cell_in f3_1 ⟨hb4, hb4.size⟩
  have f4_2 : w4.cell? ⟨w1.heap.size, 1, none⟩ = some (.int .i64 b) := cell_in f3_2 ⟨hb4, hb4.size⟩
  have f4_3 : w4.cell? ⟨w1.heap.size, 2, none⟩ = some (.int .i64 c) := cell_in f3_3 ⟨hb4, hb4.size⟩
  have f4_4 : w4.cell? ⟨q, 1, none⟩ = some (.int .i64 x) := cell_in f3_4 ⟨hb4, hb4.size⟩
  have f4_5 : w4.cell? ⟨q, 2, none⟩ = some (.int .i64 y) := cell_in f3_5 ⟨hb4, hb4.size⟩
  have f4_6 : w4.cell? ⟨q, 3, none⟩ = some (.int .i64 z) := cell_in f3_6 ⟨hb4, hb4.size⟩
  clear f3_0 f3_1 f3_2 f3_3 f3_4 f3_5 f3_6
  clear hb4
  clear HWE
  go_wp2_with fail
  have HTL := Lib.hid (fun W => iCanTell a b c f W)
  rw [tell_law hp ex ey ez hyx hzx (by omega) gz.1] at HTL
  refine (HTL.out _).mono ?_
  rintro _ w5 ⟨rfl, hb5⟩
  have f5_0 : In w.heap.size w w5 := f4_0.step hb5
  have f5_1 : w5.cell? ⟨w1.heap.size, 0, none⟩ = some (.int .i64 a) := cell_in f4_1 ⟨hb5, hb5.size⟩
  have f5_2 : w5.cell? ⟨w1.heap.size, 1, none⟩ = some (.int .i64 b) := cell_in f4_2 ⟨hb5, hb5.size⟩
  have f5_3 : w5.cell? ⟨w1.heap.size, 2, none⟩ = some (.int .i64 c) := cell_in f4_3 ⟨hb5, hb5.size⟩
  have f5_4 : w5.cell? ⟨q, 1, none⟩ = some (.int .i64 x) := cell_in f4_4 ⟨hb5, hb5.size⟩
  have f5_5 : w5.cell? ⟨q, 2, none⟩ = some (.int .i64 y) := cell_in f4_5 ⟨hb5, hb5.size⟩
  have f5_6 : w5.cell? ⟨q, 3, none⟩ = some (.int .i64 z) := cell_in f4_6 ⟨hb5, hb5.size⟩
  clear f4_0 f4_1 f4_2 f4_3 f4_4 f4_5 f4_6
  clear hb5 HTL
  have HM0 := Lib.hid (fun W h => iMissingPart a b c f n W h)
  have HT0 := Lib.hid (fun W h => iTwiceIn a b c f n W h)
  rw [show missV a b c f n = 0 by have := miss_law (d := 0) hp ex ey ez en (by omega) (by omega); rw [Int.sub_zero] at this; rw [this]; rfl] at HM0
  rw [show twiceV a b c f n = 0 by have := twice_law (d := 0) hp ex ey ez en (by omega) (by omega); rw [Int.add_zero] at this; rw [this]; rfl] at HT0
  have HMK := Lib.hid (fun (p : Int) (h0 : 0 ≤ p) (h1 : p ≤ n) W h => by
    have e := iMissingPart a b c f (n - p) W h
    rw [miss_law hp ex ey ez en (by omega) (by omega)] at e
    exact e)
  have HTK := Lib.hid (fun (p : Int) (h0 : 0 ≤ p) (h1 : p ≤ n) W h => by
    have e := iTwiceIn a b c f (n + p) W h
    rw [twice_law hp ex ey ez en (by omega) (by omega)] at e
    exact e)
  have HM9 := Lib.hid (fun W h => by
    have e := iMissingPart a b c f (n + 100000) W h
    rw [show n + 100000 = n - (-100000) by omega, miss_law hp ex ey ez en (by omega) (by omega), show tl4 x y z (-100000) = 4 by unfold tl4; rw [if_neg (by omega), if_neg (by omega), if_neg (by omega), if_neg (by omega)]] at e
    rw [show n - (-100000) = n + 100000 by omega] at e
    exact e)
  have e20 : saltV 1000 20 = 20 := by decide
  have HSA := Lib.hid (fun W => iSaltAfter 1000 20 W)
  rw [e20] at HSA
  obtain ⟨ff1, g2, non, ff2, ff3⟩ := fof_law hp.1 ⟨by omega, by omega⟩ en ⟨by omega, by omega⟩
  have HF1 := Lib.hid (fun W => iFlourOf a b c n W)
  rw [ff1] at HF1
  have HF2 := Lib.hid (fun W => iFlourOf a b c (n + 1) W)
  rw [ff2] at HF2
  have HFW := Lib.hid (fun W => sDoughWeight a b c (f + 1) W)
  have HNO := Lib.hid ff3
  clear ff1 ff2 ff3 e20
  have HCL := Lib.hid (show ∀ W', In w.heap.size w W' ∧ W'.cell? ⟨w1.heap.size, 0, none⟩ = some (.int .i64 a) ∧ W'.cell? ⟨w1.heap.size, 1, none⟩ = some (.int .i64 b) ∧ W'.cell? ⟨w1.heap.size, 2, none⟩ = some (.int .i64 c) ∧ W'.cell? ⟨q, 1, none⟩ = some (.int .i64 x) ∧ W'.cell? ⟨q, 2, none⟩ = some (.int .i64 y) ∧ W'.cell? ⟨q, 3, none⟩ = some (.int .i64 z) → ∀ W2, Below W'.heap.size W' W2 → In w.heap.size w W2 ∧ W2.cell? ⟨w1.heap.size, 0, none⟩ = some (.int .i64 a) ∧ W2.cell? ⟨w1.heap.size, 1, none⟩ = some (.int .i64 b) ∧ W2.cell? ⟨w1.heap.size, 2, none⟩ = some (.int .i64 c) ∧ W2.cell? ⟨q, 1, none⟩ = some (.int .i64 x) ∧ W2.cell? ⟨q, 2, none⟩ = some (.int .i64 y) ∧ W2.cell? ⟨q, 3, none⟩ = some (.int .i64 z) from fun W' h W2 hb => by
    obtain ⟨g0, g1, g2, g3, g4, g5, g6⟩ := h
    exact ⟨g0.step hb, cell_in g1 ⟨hb, hb.size⟩, cell_in g2 ⟨hb, hb.size⟩, cell_in g3 ⟨hb, hb.size⟩, cell_in g4 ⟨hb, hb.size⟩, cell_in g5 ⟨hb, hb.size⟩, cell_in g6 ⟨hb, hb.size⟩⟩)
  have k1 : decide (0 < x) = true := by simp; omega
  have k2 : decide (0 < y) = true := by simp; omega
  have k4 : (x != y) = true := by simp; omega
  have k5 : (x != z) = true := by simp; omega
  by_cases hz0 : 0 < z
  · by_cases hyz : ¬ y = z
    · skip
      have k3 : decide (0 < z) = true := by simp; omega
      have k6 : (y != z) = true := by simpa using hyz
      simp only []
      iterate 9 go_step
      (try rw [List.append_eq])
      (try rw [List.append_eq])
      (repeat rw [List.cons_append])
      (repeat rw [List.nil_append])
      (try simp only [k3, k6, Bool.and_self, Bool.false_and, Bool.and_false])
      refine wp_region_S (C := (fun w' => In w.heap.size w w' ∧ w'.cell? ⟨w1.heap.size, 0, none⟩ = some (.int .i64 a) ∧ w'.cell? ⟨w1.heap.size, 1, none⟩ = some (.int .i64 b) ∧ w'.cell? ⟨w1.heap.size, 2, none⟩ = some (.int .i64 c) ∧ w'.cell? ⟨q, 1, none⟩ = some (.int .i64 x) ∧ w'.cell? ⟨q, 2, none⟩ = some (.int .i64 y) ∧ w'.cell? ⟨q, 3, none⟩ = some (.int .i64 z))) (by kernel_rfl) (by kernel_rfl) ?_ ?_
      · exact ⟨f5_0.drew, f5_1, f5_2, f5_3, f5_4, f5_5, f5_6⟩
      repeat (first | go_big_quiet_skip | (go_big_quiet_want; first | (refine quiet_ex ?_; apply Exists.intro; refine ⟨fun W hW => ?_, ?_⟩; (· (obtain ⟨f6_0, f6_1, f6_2, f6_3, f6_4, f6_5, f6_6⟩ := hW; go_simp; (first | done | with_reducible rfl | rfl))); simp only [Act.put, List.setIfInBounds_toArray, List.set_cons_zero, List.set_cons_succ]; go_big_quiet_on) | (refine quiet_ex ?_; apply Exists.intro; refine ⟨fun W hW => ?_, ?_⟩; (· (go_simp; first | (go_at_call 21; (with_reducible refine (HM0.out _ (HT.out.in_ hW.1)).mono ?_); rintro e w2 ⟨rfl, hb2⟩; exact ⟨rfl, HCL.out _ hW _ hb2⟩) | (go_at_call 23; (with_reducible refine (HT0.out _ (HT.out.in_ hW.1)).mono ?_); rintro e w2 ⟨rfl, hb2⟩; exact ⟨rfl, HCL.out _ hW _ hb2⟩))); simp only [Act.put, List.setIfInBounds_toArray, List.set_cons_zero, List.set_cons_succ]; go_big_quiet_on)))
      refine wpQuiet_nil ?_
      rintro w' ⟨f6_0, f6_1, f6_2, f6_3, f6_4, f6_5, f6_6⟩
      clear f5_0 f5_1 f5_2 f5_3 f5_4 f5_5 f5_6
      obtain ⟨u0, hx9⟩ : ∃ x, x = w' := ⟨_, rfl⟩
      subst hx9
      clear k1 k2 k4 k5 k3 k6 HCL HM0 HT0
      as_aux_lemma =>
       go_wp2
       go_loopw [8, 9, 10] (fun i _ _ wr => ∃ k : Nat, 1 ≤ k ∧ k ≤ 4 ∧ i = .int .i64 k ∧ (In w.heap.size w wr ∧ wr.cell? ⟨w1.heap.size, 0, none⟩ = some (.int .i64 a) ∧ wr.cell? ⟨w1.heap.size, 1, none⟩ = some (.int .i64 b) ∧ wr.cell? ⟨w1.heap.size, 2, none⟩ = some (.int .i64 c) ∧ wr.cell? ⟨q, 1, none⟩ = some (.int .i64 x) ∧ wr.cell? ⟨q, 2, none⟩ = some (.int .i64 y) ∧ wr.cell? ⟨q, 3, none⟩ = some (.int .i64 z))) (fun i _ _ _ => 4 - (intOf i).toNat)
       case atStart => exact ⟨1, by omega, by omega, rfl, f6_0, f6_1, f6_2, f6_3, f6_4, f6_5, f6_6⟩
       case round =>
         obtain ⟨k, hk1, hk4, rfl, f7_0, f7_1, f7_2, f7_3, f7_4, f7_5, f7_6⟩ := hrel
         clear f6_0 f6_1 f6_2 f6_3 f6_4 f6_5 f6_6
         by_cases hlt : k < 4
         · skip
           obtain ⟨p, t, hpt, hcell, hp0, hpn, h3, h4⟩ : ∃ p t : Int, tl4 x y z p = t ∧ wr.cell? ⟨q, k, none⟩ = some (.int .i64 p) ∧ 0 ≤ p ∧ p ≤ n ∧ (0 < p → 1 ≤ t ∧ t ≤ k) ∧ (0 < p ∧ t = k) := by
             have hk : k = 1 ∨ k = 2 ∨ k = 3 := by omega
             rcases hk with rfl | rfl | rfl
             · refine ⟨x, _, rfl, f7_4, by omega, by omega, ?_, ?_⟩
               · intro h9; unfold tl4; split <;> (try split) <;> (try split) <;> (try split) <;> omega
               · refine ⟨by omega, ?_⟩; unfold tl4; rw [if_neg (by omega), if_pos rfl]; rfl
             · refine ⟨y, _, rfl, f7_5, by omega, by omega, ?_, ?_⟩
               · intro h9; unfold tl4; split <;> (try split) <;> (try split) <;> (try split) <;> omega
               · refine ⟨by omega, ?_⟩; unfold tl4; rw [if_neg (by omega), if_neg (by omega), if_pos rfl]; rfl
             · refine ⟨z, _, rfl, f7_6, by omega, by omega, ?_, ?_⟩
               · intro h9; unfold tl4; split <;> (try split) <;> (try split) <;> (try split) <;> omega
               · refine ⟨by omega, ?_⟩; unfold tl4; rw [if_neg (by omega), if_neg (by omega), if_neg (by omega), if_pos rfl]; rfl
           have HK := Lib.hid (fun W h => HMK.out p hp0 hpn W h)
           have HL := Lib.hid (fun W h => HTK.out p hp0 hpn W h)
           rw [hpt] at HK HL
           have f7_7 := hcell
           have hk3 : (k : Int) ≤ 3 := by omega
           have hk0 : (1 : Int) ≤ (k : Int) := by omega
           have V1 : IntKind.i64.wrap (n - p) = n - p := by rw [IntWalk.i64_in _ (by omega)]
           have V2 : IntKind.i64.wrap (n + p) = n + p := by rw [IntWalk.i64_in _ (by omega)]
           have ix : (k : Int) < 4 := by omega
           have ix0 : (0 : Int) ≤ (k : Int) := by omega
           clear hpt hcell hlt
           have HCL := Lib.hid (show ∀ W', In w.heap.size w W' ∧ W'.cell? ⟨w1.heap.size, 0, none⟩ = some (.int .i64 a) ∧ W'.cell? ⟨w1.heap.size, 1, none⟩ = some (.int .i64 b) ∧ W'.cell? ⟨w1.heap.size, 2, none⟩ = some (.int .i64 c) ∧ W'.cell? ⟨q, 1, none⟩ = some (.int .i64 x) ∧ W'.cell? ⟨q, 2, none⟩ = some (.int .i64 y) ∧ W'.cell? ⟨q, 3, none⟩ = some (.int .i64 z) ∧ W'.cell? ⟨q, k, none⟩ = some (.int .i64 p) → ∀ W2, Below W'.heap.size W' W2 → In w.heap.size w W2 ∧ W2.cell? ⟨w1.heap.size, 0, none⟩ = some (.int .i64 a) ∧ W2.cell? ⟨w1.heap.size, 1, none⟩ = some (.int .i64 b) ∧ W2.cell? ⟨w1.heap.size, 2, none⟩ = some (.int .i64 c) ∧ W2.cell? ⟨q, 1, none⟩ = some (.int .i64 x) ∧ W2.cell? ⟨q, 2, none⟩ = some (.int .i64 y) ∧ W2.cell? ⟨q, 3, none⟩ = some (.int .i64 z) ∧ W2.cell? ⟨q, k, none⟩ = some (.int .i64 p) from fun W' h W2 hb => by
             obtain ⟨g0, g1, g2, g3, g4, g5, g6, g7⟩ := h
             exact ⟨g0.step hb, cell_in g1 ⟨hb, hb.size⟩, cell_in g2 ⟨hb, hb.size⟩, cell_in g3 ⟨hb, hb.size⟩, cell_in g4 ⟨hb, hb.size⟩, cell_in g5 ⟨hb, hb.size⟩, cell_in g6 ⟨hb, hb.size⟩, cell_in g7 ⟨hb, hb.size⟩⟩)
           go_wp2
           refine wp_region_S (C := (fun w' => In w.heap.size w w' ∧ w'.cell? ⟨w1.heap.size, 0, none⟩ = some (.int .i64 a) ∧ w'.cell? ⟨w1.heap.size, 1, none⟩ = some (.int .i64 b) ∧ w'.cell? ⟨w1.heap.size, 2, none⟩ = some (.int .i64 c) ∧ w'.cell? ⟨q, 1, none⟩ = some (.int .i64 x) ∧ w'.cell? ⟨q, 2, none⟩ = some (.int .i64 y) ∧ w'.cell? ⟨q, 3, none⟩ = some (.int .i64 z) ∧ w'.cell? ⟨q, k, none⟩ = some (.int .i64 p))) (by kernel_rfl) (by kernel_rfl) ?_ ?_
           · exact ⟨f7_0.drew, f7_1, f7_2, f7_3, f7_4, f7_5, f7_6, f7_7⟩
           repeat (first | go_big_quiet_skip | (go_big_quiet_want; first | (refine quiet_ex ?_; apply Exists.intro; refine ⟨fun W hW => ?_, ?_⟩; (· (obtain ⟨f8_0, f8_1, f8_2, f8_3, f8_4, f8_5, f8_6, f8_7⟩ := hW; go_simp; (first | done | with_reducible rfl | rfl))); simp only [Act.put, List.setIfInBounds_toArray, List.set_cons_zero, List.set_cons_succ]; go_big_quiet_on) | (refine quiet_ex ?_; apply Exists.intro; refine ⟨fun W hW => ?_, ?_⟩; (· (go_simp; first | (go_at_call 21; (with_reducible refine (HK.out _ (HT.out.in_ hW.1)).mono ?_); rintro e w2 ⟨rfl, hb2⟩; exact ⟨rfl, HCL.out _ hW _ hb2⟩))); simp only [Act.put, List.setIfInBounds_toArray, List.set_cons_zero, List.set_cons_succ]; go_big_quiet_on)))
           refine wpQuiet_nil ?_
           rintro w' ⟨f8_0, f8_1, f8_2, f8_3, f8_4, f8_5, f8_6, f8_7⟩
           clear f7_0 f7_1 f7_2 f7_3 f7_4 f7_5 f7_6 f7_7
           obtain ⟨u1, hx9⟩ : ∃ x, x = w' := ⟨_, rfl⟩
           subst hx9
           go_wp2
           clear HCL
           have HCL := Lib.hid (show ∀ W', In w.heap.size w W' ∧ W'.cell? ⟨w1.heap.size, 0, none⟩ = some (.int .i64 a) ∧ W'.cell? ⟨w1.heap.size, 1, none⟩ = some (.int .i64 b) ∧ W'.cell? ⟨w1.heap.size, 2, none⟩ = some (.int .i64 c) ∧ W'.cell? ⟨q, 1, none⟩ = some (.int .i64 x) ∧ W'.cell? ⟨q, 2, none⟩ = some (.int .i64 y) ∧ W'.cell? ⟨q, 3, none⟩ = some (.int .i64 z) ∧ W'.cell? ⟨q, k, none⟩ = some (.int .i64 p) → ∀ W2, Below W'.heap.size W' W2 → In w.heap.size w W2 ∧ W2.cell? ⟨w1.heap.size, 0, none⟩ = some (.int .i64 a) ∧ W2.cell? ⟨w1.heap.size, 1, none⟩ = some (.int .i64 b) ∧ W2.cell? ⟨w1.heap.size, 2, none⟩ = some (.int .i64 c) ∧ W2.cell? ⟨q, 1, none⟩ = some (.int .i64 x) ∧ W2.cell? ⟨q, 2, none⟩ = some (.int .i64 y) ∧ W2.cell? ⟨q, 3, none⟩ = some (.int .i64 z) ∧ W2.cell? ⟨q, k, none⟩ = some (.int .i64 p) from fun W' h W2 hb => by
             obtain ⟨g0, g1, g2, g3, g4, g5, g6, g7⟩ := h
             exact ⟨g0.step hb, cell_in g1 ⟨hb, hb.size⟩, cell_in g2 ⟨hb, hb.size⟩, cell_in g3 ⟨hb, hb.size⟩, cell_in g4 ⟨hb, hb.size⟩, cell_in g5 ⟨hb, hb.size⟩, cell_in g6 ⟨hb, hb.size⟩, cell_in g7 ⟨hb, hb.size⟩⟩)
           refine wp_region_S (C := (fun w' => In w.heap.size w w' ∧ w'.cell? ⟨w1.heap.size, 0, none⟩ = some (.int .i64 a) ∧ w'.cell? ⟨w1.heap.size, 1, none⟩ = some (.int .i64 b) ∧ w'.cell? ⟨w1.heap.size, 2, none⟩ = some (.int .i64 c) ∧ w'.cell? ⟨q, 1, none⟩ = some (.int .i64 x) ∧ w'.cell? ⟨q, 2, none⟩ = some (.int .i64 y) ∧ w'.cell? ⟨q, 3, none⟩ = some (.int .i64 z) ∧ w'.cell? ⟨q, k, none⟩ = some (.int .i64 p))) (by kernel_rfl) (by kernel_rfl) ?_ ?_
           · exact ⟨f8_0.drew, f8_1, f8_2, f8_3, f8_4, f8_5, f8_6, f8_7⟩
           repeat (first | go_big_quiet_skip | (go_big_quiet_want; first | (refine quiet_ex ?_; apply Exists.intro; refine ⟨fun W hW => ?_, ?_⟩; (· (obtain ⟨f9_0, f9_1, f9_2, f9_3, f9_4, f9_5, f9_6, f9_7⟩ := hW; go_simp; (first | done | with_reducible rfl | rfl))); simp only [Act.put, List.setIfInBounds_toArray, List.set_cons_zero, List.set_cons_succ]; go_big_quiet_on) | (refine quiet_ex ?_; apply Exists.intro; refine ⟨fun W hW => ?_, ?_⟩; (· (go_simp; first | (go_at_call 23; (with_reducible refine (HL.out _ (HT.out.in_ hW.1)).mono ?_); rintro e w2 ⟨rfl, hb2⟩; exact ⟨rfl, HCL.out _ hW _ hb2⟩))); simp only [Act.put, List.setIfInBounds_toArray, List.set_cons_zero, List.set_cons_succ]; go_big_quiet_on)))
           refine wpQuiet_nil ?_
           rintro w' ⟨f9_0, f9_1, f9_2, f9_3, f9_4, f9_5, f9_6, f9_7⟩
           clear f8_0 f8_1 f8_2 f8_3 f8_4 f8_5 f8_6 f8_7
           obtain ⟨u2, hx9⟩ : ∃ x, x = w' := ⟨_, rfl⟩
           subst hx9
           clear HCL V1 V2
           obtain ⟨h5, rfl⟩ := h4
           have z1 : decide ((k : Int) < 1) = false := by simp; omega
           go_wp2
           go_roundw
           case rel => exact ⟨k + 1, by omega, by omega, by go_num, f9_0, f9_1, f9_2, f9_3, f9_4, f9_5, f9_6⟩
           case measure => simp [intOf]; omega
         · skip
           obtain rfl : k = 4 := by omega
           clear HMK HTK hlt hk1 hk4
           go_wp2_with fail
           refine (HF1.out _).mono ?_
           rintro _ w8 ⟨rfl, hb8⟩
           have f8_0 : In w.heap.size w w8 := f7_0.step hb8
           have f8_1 : w8.cell? ⟨w1.heap.size, 0, none⟩ = some (.int .i64 a) := cell_in f7_1 ⟨hb8, hb8.size⟩
           have f8_2 : w8.cell? ⟨w1.heap.size, 1, none⟩ = some (.int .i64 b) := cell_in f7_2 ⟨hb8, hb8.size⟩
           have f8_3 : w8.cell? ⟨w1.heap.size, 2, none⟩ = some (.int .i64 c) := cell_in f7_3 ⟨hb8, hb8.size⟩
           have f8_4 : w8.cell? ⟨q, 1, none⟩ = some (.int .i64 x) := cell_in f7_4 ⟨hb8, hb8.size⟩
           have f8_5 : w8.cell? ⟨q, 2, none⟩ = some (.int .i64 y) := cell_in f7_5 ⟨hb8, hb8.size⟩
           have f8_6 : w8.cell? ⟨q, 3, none⟩ = some (.int .i64 z) := cell_in f7_6 ⟨hb8, hb8.size⟩
           clear f7_0 f7_1 f7_2 f7_3 f7_4 f7_5 f7_6
           clear hb8
           clear HF1
           go_wp2_with fail
           refine (HF2.out _).mono ?_
           rintro _ w9 ⟨rfl, hb9⟩
           have f9_0 : In w.heap.size w w9 := f8_0.step hb9
           have f9_1 : w9.cell? ⟨w1.heap.size, 0, none⟩ = some (.int .i64 a) := cell_in f8_1 ⟨hb9, hb9.size⟩
           have f9_2 : w9.cell? ⟨w1.heap.size, 1, none⟩ = some (.int .i64 b) := cell_in f8_2 ⟨hb9, hb9.size⟩
           have f9_3 : w9.cell? ⟨w1.heap.size, 2, none⟩ = some (.int .i64 c) := cell_in f8_3 ⟨hb9, hb9.size⟩
           have f9_4 : w9.cell? ⟨q, 1, none⟩ = some (.int .i64 x) := cell_in f8_4 ⟨hb9, hb9.size⟩
           have f9_5 : w9.cell? ⟨q, 2, none⟩ = some (.int .i64 y) := cell_in f8_5 ⟨hb9, hb9.size⟩
           have f9_6 : w9.cell? ⟨q, 3, none⟩ = some (.int .i64 z) := cell_in f8_6 ⟨hb9, hb9.size⟩
           clear f8_0 f8_1 f8_2 f8_3 f8_4 f8_5 f8_6
           clear hb9
           clear HF2
           cases non
           · skip
             have V3 : IntKind.i64.wrap (n + 100000) = n + 100000 := IntWalk.i64_in _ (by omega)
             have V4 : IntKind.i64.wrap (f + 1) = f + 1 := IntWalk.i64_in _ (by omega)
             have V5 : IntKind.i64.wrap (n + 1) = n + 1 := IntWalk.i64_in _ (by omega)
             have HCL := Lib.hid (show ∀ W', In w.heap.size w W' ∧ W'.cell? ⟨w1.heap.size, 0, none⟩ = some (.int .i64 a) ∧ W'.cell? ⟨w1.heap.size, 1, none⟩ = some (.int .i64 b) ∧ W'.cell? ⟨w1.heap.size, 2, none⟩ = some (.int .i64 c) ∧ W'.cell? ⟨q, 1, none⟩ = some (.int .i64 x) ∧ W'.cell? ⟨q, 2, none⟩ = some (.int .i64 y) ∧ W'.cell? ⟨q, 3, none⟩ = some (.int .i64 z) → ∀ W2, Below W'.heap.size W' W2 → In w.heap.size w W2 ∧ W2.cell? ⟨w1.heap.size, 0, none⟩ = some (.int .i64 a) ∧ W2.cell? ⟨w1.heap.size, 1, none⟩ = some (.int .i64 b) ∧ W2.cell? ⟨w1.heap.size, 2, none⟩ = some (.int .i64 c) ∧ W2.cell? ⟨q, 1, none⟩ = some (.int .i64 x) ∧ W2.cell? ⟨q, 2, none⟩ = some (.int .i64 y) ∧ W2.cell? ⟨q, 3, none⟩ = some (.int .i64 z) from fun W' h W2 hb => by
               obtain ⟨g0, g1, g2, g3, g4, g5, g6⟩ := h
               exact ⟨g0.step hb, cell_in g1 ⟨hb, hb.size⟩, cell_in g2 ⟨hb, hb.size⟩, cell_in g3 ⟨hb, hb.size⟩, cell_in g4 ⟨hb, hb.size⟩, cell_in g5 ⟨hb, hb.size⟩, cell_in g6 ⟨hb, hb.size⟩⟩)
             clear ha hb hc hf hp ex ey ez en hn gx gy gz hyx hzx
             simp only []
             iterate 20 go_step
             (try rw [List.append_eq])
             (try rw [List.append_eq])
             (repeat rw [List.cons_append])
             (repeat rw [List.nil_append])
             refine wp_region_L (C := (fun w' => In w.heap.size w w' ∧ w'.cell? ⟨w1.heap.size, 0, none⟩ = some (.int .i64 a) ∧ w'.cell? ⟨w1.heap.size, 1, none⟩ = some (.int .i64 b) ∧ w'.cell? ⟨w1.heap.size, 2, none⟩ = some (.int .i64 c) ∧ w'.cell? ⟨q, 1, none⟩ = some (.int .i64 x) ∧ w'.cell? ⟨q, 2, none⟩ = some (.int .i64 y) ∧ w'.cell? ⟨q, 3, none⟩ = some (.int .i64 z))) ?_ ?_
             · exact ⟨f9_0, f9_1, f9_2, f9_3, f9_4, f9_5, f9_6⟩
             repeat (first | go_big_quiet_skip | (go_big_quiet_want; first | (refine quiet_ex ?_; apply Exists.intro; refine ⟨fun W hW => ?_, ?_⟩; (· (obtain ⟨f10_0, f10_1, f10_2, f10_3, f10_4, f10_5, f10_6⟩ := hW; go_simp; (first | done | with_reducible rfl | rfl))); simp only [Act.put, List.setIfInBounds_toArray, List.set_cons_zero, List.set_cons_succ]; go_big_quiet_on) | (refine quiet_ex ?_; apply Exists.intro; refine ⟨fun W hW => ?_, ?_⟩; (· (go_simp; first | (go_at_call 29; (with_reducible refine (HSA.out _).mono ?_); rintro e w2 ⟨rfl, rfl⟩; exact ⟨rfl, hW⟩) | (go_at_call 21; (with_reducible refine (HM9.out _ (HT.out.in_ hW.1)).mono ?_); rintro e w2 ⟨rfl, hb2⟩; exact ⟨rfl, HCL.out _ hW _ hb2⟩))); simp only [Act.put, List.setIfInBounds_toArray, List.set_cons_zero, List.set_cons_succ]; go_big_quiet_on)))
             refine wpQuiet_nil ?_
             rintro w' ⟨f10_0, f10_1, f10_2, f10_3, f10_4, f10_5, f10_6⟩
             clear f9_0 f9_1 f9_2 f9_3 f9_4 f9_5 f9_6
             go_wp2
             go_ret
             exact ⟨ret_bool rfl, f10_0.below⟩
           · skip
             have hno := HNO.out rfl
             rw [hno] at HFW
             have V3 : IntKind.i64.wrap (n + 100000) = n + 100000 := IntWalk.i64_in _ (by omega)
             have V4 : IntKind.i64.wrap (f + 1) = f + 1 := IntWalk.i64_in _ (by omega)
             have V5 : IntKind.i64.wrap (n + 1) = n + 1 := IntWalk.i64_in _ (by omega)
             have HCL := Lib.hid (show ∀ W', In w.heap.size w W' ∧ W'.cell? ⟨w1.heap.size, 0, none⟩ = some (.int .i64 a) ∧ W'.cell? ⟨w1.heap.size, 1, none⟩ = some (.int .i64 b) ∧ W'.cell? ⟨w1.heap.size, 2, none⟩ = some (.int .i64 c) ∧ W'.cell? ⟨q, 1, none⟩ = some (.int .i64 x) ∧ W'.cell? ⟨q, 2, none⟩ = some (.int .i64 y) ∧ W'.cell? ⟨q, 3, none⟩ = some (.int .i64 z) → ∀ W2, Below W'.heap.size W' W2 → In w.heap.size w W2 ∧ W2.cell? ⟨w1.heap.size, 0, none⟩ = some (.int .i64 a) ∧ W2.cell? ⟨w1.heap.size, 1, none⟩ = some (.int .i64 b) ∧ W2.cell? ⟨w1.heap.size, 2, none⟩ = some (.int .i64 c) ∧ W2.cell? ⟨q, 1, none⟩ = some (.int .i64 x) ∧ W2.cell? ⟨q, 2, none⟩ = some (.int .i64 y) ∧ W2.cell? ⟨q, 3, none⟩ = some (.int .i64 z) from fun W' h W2 hb => by
               obtain ⟨g0, g1, g2, g3, g4, g5, g6⟩ := h
               exact ⟨g0.step hb, cell_in g1 ⟨hb, hb.size⟩, cell_in g2 ⟨hb, hb.size⟩, cell_in g3 ⟨hb, hb.size⟩, cell_in g4 ⟨hb, hb.size⟩, cell_in g5 ⟨hb, hb.size⟩, cell_in g6 ⟨hb, hb.size⟩⟩)
             clear ha hb hc hf hp ex ey ez en hn gx gy gz hyx hzx hno
             simp only []
             iterate 20 go_step
             (try rw [List.append_eq])
             (try rw [List.append_eq])
             (repeat rw [List.cons_append])
             (repeat rw [List.nil_append])
             refine wp_region_L (C := (fun w' => In w.heap.size w w' ∧ w'.cell? ⟨w1.heap.size, 0, none⟩ = some (.int .i64 a) ∧ w'.cell? ⟨w1.heap.size, 1, none⟩ = some (.int .i64 b) ∧ w'.cell? ⟨w1.heap.size, 2, none⟩ = some (.int .i64 c) ∧ w'.cell? ⟨q, 1, none⟩ = some (.int .i64 x) ∧ w'.cell? ⟨q, 2, none⟩ = some (.int .i64 y) ∧ w'.cell? ⟨q, 3, none⟩ = some (.int .i64 z))) ?_ ?_
             · exact ⟨f9_0, f9_1, f9_2, f9_3, f9_4, f9_5, f9_6⟩
             repeat (first | go_big_quiet_skip | (go_big_quiet_want; first | (refine quiet_ex ?_; apply Exists.intro; refine ⟨fun W hW => ?_, ?_⟩; (· (obtain ⟨f10_0, f10_1, f10_2, f10_3, f10_4, f10_5, f10_6⟩ := hW; go_simp; (first | done | with_reducible rfl | rfl))); simp only [Act.put, List.setIfInBounds_toArray, List.set_cons_zero, List.set_cons_succ]; go_big_quiet_on) | (refine quiet_ex ?_; apply Exists.intro; refine ⟨fun W hW => ?_, ?_⟩; (· (go_simp; first | (go_at_call 29; (with_reducible refine (HSA.out _).mono ?_); rintro e w2 ⟨rfl, rfl⟩; exact ⟨rfl, hW⟩) | (go_at_call 21; (with_reducible refine (HM9.out _ (HT.out.in_ hW.1)).mono ?_); rintro e w2 ⟨rfl, hb2⟩; exact ⟨rfl, HCL.out _ hW _ hb2⟩) | (go_at_call 26; (with_reducible refine (HFW.out _).mono ?_); rintro e w2 ⟨rfl, hb2⟩; exact ⟨rfl, HCL.out _ hW _ hb2⟩))); simp only [Act.put, List.setIfInBounds_toArray, List.set_cons_zero, List.set_cons_succ]; go_big_quiet_on)))
             refine wpQuiet_nil ?_
             rintro w' ⟨f10_0, f10_1, f10_2, f10_3, f10_4, f10_5, f10_6⟩
             clear f9_0 f9_1 f9_2 f9_3 f9_4 f9_5 f9_6
             go_wp2
             go_ret
             exact ⟨ret_bool rfl, f10_0.below⟩
    · skip
      have hyz : y = z := Classical.not_not.1 hyz
      have k3 : decide (0 < z) = true := by simp; omega
      have k6 : (y != z) = false := by simpa using hyz
      clear hyz
      simp only []
      iterate 9 go_step
      (try rw [List.append_eq])
      (try rw [List.append_eq])
      (repeat rw [List.cons_append])
      (repeat rw [List.nil_append])
      (try simp only [k3, k6, Bool.and_self, Bool.false_and, Bool.and_false])
      refine wp_region_S (C := (fun w' => In w.heap.size w w' ∧ w'.cell? ⟨w1.heap.size, 0, none⟩ = some (.int .i64 a) ∧ w'.cell? ⟨w1.heap.size, 1, none⟩ = some (.int .i64 b) ∧ w'.cell? ⟨w1.heap.size, 2, none⟩ = some (.int .i64 c) ∧ w'.cell? ⟨q, 1, none⟩ = some (.int .i64 x) ∧ w'.cell? ⟨q, 2, none⟩ = some (.int .i64 y) ∧ w'.cell? ⟨q, 3, none⟩ = some (.int .i64 z))) (by kernel_rfl) (by kernel_rfl) ?_ ?_
      · exact ⟨f5_0.drew, f5_1, f5_2, f5_3, f5_4, f5_5, f5_6⟩
      repeat (first | go_big_quiet_skip | (go_big_quiet_want; first | (refine quiet_ex ?_; apply Exists.intro; refine ⟨fun W hW => ?_, ?_⟩; (· (obtain ⟨f6_0, f6_1, f6_2, f6_3, f6_4, f6_5, f6_6⟩ := hW; go_simp; (first | done | with_reducible rfl | rfl))); simp only [Act.put, List.setIfInBounds_toArray, List.set_cons_zero, List.set_cons_succ]; go_big_quiet_on) | (refine quiet_ex ?_; apply Exists.intro; refine ⟨fun W hW => ?_, ?_⟩; (· (go_simp; first | (go_at_call 21; (with_reducible refine (HM0.out _ (HT.out.in_ hW.1)).mono ?_); rintro e w2 ⟨rfl, hb2⟩; exact ⟨rfl, HCL.out _ hW _ hb2⟩) | (go_at_call 23; (with_reducible refine (HT0.out _ (HT.out.in_ hW.1)).mono ?_); rintro e w2 ⟨rfl, hb2⟩; exact ⟨rfl, HCL.out _ hW _ hb2⟩))); simp only [Act.put, List.setIfInBounds_toArray, List.set_cons_zero, List.set_cons_succ]; go_big_quiet_on)))
      refine wpQuiet_nil ?_
      rintro w' ⟨f6_0, f6_1, f6_2, f6_3, f6_4, f6_5, f6_6⟩
      clear f5_0 f5_1 f5_2 f5_3 f5_4 f5_5 f5_6
      obtain ⟨u0, hx9⟩ : ∃ x, x = w' := ⟨_, rfl⟩
      subst hx9
      clear k1 k2 k4 k5 k3 k6 HCL HM0 HT0
      as_aux_lemma =>
       go_wp2
       go_loopw [8, 9, 10] (fun i _ _ wr => ∃ k : Nat, 1 ≤ k ∧ k ≤ 4 ∧ i = .int .i64 k ∧ (In w.heap.size w wr ∧ wr.cell? ⟨w1.heap.size, 0, none⟩ = some (.int .i64 a) ∧ wr.cell? ⟨w1.heap.size, 1, none⟩ = some (.int .i64 b) ∧ wr.cell? ⟨w1.heap.size, 2, none⟩ = some (.int .i64 c) ∧ wr.cell? ⟨q, 1, none⟩ = some (.int .i64 x) ∧ wr.cell? ⟨q, 2, none⟩ = some (.int .i64 y) ∧ wr.cell? ⟨q, 3, none⟩ = some (.int .i64 z))) (fun i _ _ _ => 4 - (intOf i).toNat)
       case atStart => exact ⟨1, by omega, by omega, rfl, f6_0, f6_1, f6_2, f6_3, f6_4, f6_5, f6_6⟩
       case round =>
         obtain ⟨k, hk1, hk4, rfl, f7_0, f7_1, f7_2, f7_3, f7_4, f7_5, f7_6⟩ := hrel
         clear f6_0 f6_1 f6_2 f6_3 f6_4 f6_5 f6_6
         by_cases hlt : k < 4
         · skip
           obtain ⟨p, t, hpt, hcell, hp0, hpn, h3, h4⟩ : ∃ p t : Int, tl4 x y z p = t ∧ wr.cell? ⟨q, k, none⟩ = some (.int .i64 p) ∧ 0 ≤ p ∧ p ≤ n ∧ (0 < p → 1 ≤ t ∧ t ≤ k) ∧ True := by
             have hk : k = 1 ∨ k = 2 ∨ k = 3 := by omega
             rcases hk with rfl | rfl | rfl
             · refine ⟨x, _, rfl, f7_4, by omega, by omega, ?_, ?_⟩
               · intro h9; unfold tl4; split <;> (try split) <;> (try split) <;> (try split) <;> omega
               · trivial
             · refine ⟨y, _, rfl, f7_5, by omega, by omega, ?_, ?_⟩
               · intro h9; unfold tl4; split <;> (try split) <;> (try split) <;> (try split) <;> omega
               · trivial
             · refine ⟨z, _, rfl, f7_6, by omega, by omega, ?_, ?_⟩
               · intro h9; unfold tl4; split <;> (try split) <;> (try split) <;> (try split) <;> omega
               · trivial
           have HK := Lib.hid (fun W h => HMK.out p hp0 hpn W h)
           have HL := Lib.hid (fun W h => HTK.out p hp0 hpn W h)
           rw [hpt] at HK HL
           have f7_7 := hcell
           have hk3 : (k : Int) ≤ 3 := by omega
           have hk0 : (1 : Int) ≤ (k : Int) := by omega
           have V1 : IntKind.i64.wrap (n - p) = n - p := by rw [IntWalk.i64_in _ (by omega)]
           have V2 : IntKind.i64.wrap (n + p) = n + p := by rw [IntWalk.i64_in _ (by omega)]
           have ix : (k : Int) < 4 := by omega
           have ix0 : (0 : Int) ≤ (k : Int) := by omega
           clear hpt hcell hlt
           have HCL := Lib.hid (show ∀ W', In w.heap.size w W' ∧ W'.cell? ⟨w1.heap.size, 0, none⟩ = some (.int .i64 a) ∧ W'.cell? ⟨w1.heap.size, 1, none⟩ = some (.int .i64 b) ∧ W'.cell? ⟨w1.heap.size, 2, none⟩ = some (.int .i64 c) ∧ W'.cell? ⟨q, 1, none⟩ = some (.int .i64 x) ∧ W'.cell? ⟨q, 2, none⟩ = some (.int .i64 y) ∧ W'.cell? ⟨q, 3, none⟩ = some (.int .i64 z) ∧ W'.cell? ⟨q, k, none⟩ = some (.int .i64 p) → ∀ W2, Below W'.heap.size W' W2 → In w.heap.size w W2 ∧ W2.cell? ⟨w1.heap.size, 0, none⟩ = some (.int .i64 a) ∧ W2.cell? ⟨w1.heap.size, 1, none⟩ = some (.int .i64 b) ∧ W2.cell? ⟨w1.heap.size, 2, none⟩ = some (.int .i64 c) ∧ W2.cell? ⟨q, 1, none⟩ = some (.int .i64 x) ∧ W2.cell? ⟨q, 2, none⟩ = some (.int .i64 y) ∧ W2.cell? ⟨q, 3, none⟩ = some (.int .i64 z) ∧ W2.cell? ⟨q, k, none⟩ = some (.int .i64 p) from fun W' h W2 hb => by
             obtain ⟨g0, g1, g2, g3, g4, g5, g6, g7⟩ := h
             exact ⟨g0.step hb, cell_in g1 ⟨hb, hb.size⟩, cell_in g2 ⟨hb, hb.size⟩, cell_in g3 ⟨hb, hb.size⟩, cell_in g4 ⟨hb, hb.size⟩, cell_in g5 ⟨hb, hb.size⟩, cell_in g6 ⟨hb, hb.size⟩, cell_in g7 ⟨hb, hb.size⟩⟩)
           go_wp2
           refine wp_region_S (C := (fun w' => In w.heap.size w w' ∧ w'.cell? ⟨w1.heap.size, 0, none⟩ = some (.int .i64 a) ∧ w'.cell? ⟨w1.heap.size, 1, none⟩ = some (.int .i64 b) ∧ w'.cell? ⟨w1.heap.size, 2, none⟩ = some (.int .i64 c) ∧ w'.cell? ⟨q, 1, none⟩ = some (.int .i64 x) ∧ w'.cell? ⟨q, 2, none⟩ = some (.int .i64 y) ∧ w'.cell? ⟨q, 3, none⟩ = some (.int .i64 z) ∧ w'.cell? ⟨q, k, none⟩ = some (.int .i64 p))) (by kernel_rfl) (by kernel_rfl) ?_ ?_
           · exact ⟨f7_0.drew, f7_1, f7_2, f7_3, f7_4, f7_5, f7_6, f7_7⟩
           repeat (first | go_big_quiet_skip | (go_big_quiet_want; first | (refine quiet_ex ?_; apply Exists.intro; refine ⟨fun W hW => ?_, ?_⟩; (· (obtain ⟨f8_0, f8_1, f8_2, f8_3, f8_4, f8_5, f8_6, f8_7⟩ := hW; go_simp; (first | done | with_reducible rfl | rfl))); simp only [Act.put, List.setIfInBounds_toArray, List.set_cons_zero, List.set_cons_succ]; go_big_quiet_on) | (refine quiet_ex ?_; apply Exists.intro; refine ⟨fun W hW => ?_, ?_⟩; (· (go_simp; first | (go_at_call 21; (with_reducible refine (HK.out _ (HT.out.in_ hW.1)).mono ?_); rintro e w2 ⟨rfl, hb2⟩; exact ⟨rfl, HCL.out _ hW _ hb2⟩))); simp only [Act.put, List.setIfInBounds_toArray, List.set_cons_zero, List.set_cons_succ]; go_big_quiet_on)))
           refine wpQuiet_nil ?_
           rintro w' ⟨f8_0, f8_1, f8_2, f8_3, f8_4, f8_5, f8_6, f8_7⟩
           clear f7_0 f7_1 f7_2 f7_3 f7_4 f7_5 f7_6 f7_7
           obtain ⟨u1, hx9⟩ : ∃ x, x = w' := ⟨_, rfl⟩
           subst hx9
           go_wp2
           clear HCL
           have HCL := Lib.hid (show ∀ W', In w.heap.size w W' ∧ W'.cell? ⟨w1.heap.size, 0, none⟩ = some (.int .i64 a) ∧ W'.cell? ⟨w1.heap.size, 1, none⟩ = some (.int .i64 b) ∧ W'.cell? ⟨w1.heap.size, 2, none⟩ = some (.int .i64 c) ∧ W'.cell? ⟨q, 1, none⟩ = some (.int .i64 x) ∧ W'.cell? ⟨q, 2, none⟩ = some (.int .i64 y) ∧ W'.cell? ⟨q, 3, none⟩ = some (.int .i64 z) ∧ W'.cell? ⟨q, k, none⟩ = some (.int .i64 p) → ∀ W2, Below W'.heap.size W' W2 → In w.heap.size w W2 ∧ W2.cell? ⟨w1.heap.size, 0, none⟩ = some (.int .i64 a) ∧ W2.cell? ⟨w1.heap.size, 1, none⟩ = some (.int .i64 b) ∧ W2.cell? ⟨w1.heap.size, 2, none⟩ = some (.int .i64 c) ∧ W2.cell? ⟨q, 1, none⟩ = some (.int .i64 x) ∧ W2.cell? ⟨q, 2, none⟩ = some (.int .i64 y) ∧ W2.cell? ⟨q, 3, none⟩ = some (.int .i64 z) ∧ W2.cell? ⟨q, k, none⟩ = some (.int .i64 p) from fun W' h W2 hb => by
             obtain ⟨g0, g1, g2, g3, g4, g5, g6, g7⟩ := h
             exact ⟨g0.step hb, cell_in g1 ⟨hb, hb.size⟩, cell_in g2 ⟨hb, hb.size⟩, cell_in g3 ⟨hb, hb.size⟩, cell_in g4 ⟨hb, hb.size⟩, cell_in g5 ⟨hb, hb.size⟩, cell_in g6 ⟨hb, hb.size⟩, cell_in g7 ⟨hb, hb.size⟩⟩)
           refine wp_region_S (C := (fun w' => In w.heap.size w w' ∧ w'.cell? ⟨w1.heap.size, 0, none⟩ = some (.int .i64 a) ∧ w'.cell? ⟨w1.heap.size, 1, none⟩ = some (.int .i64 b) ∧ w'.cell? ⟨w1.heap.size, 2, none⟩ = some (.int .i64 c) ∧ w'.cell? ⟨q, 1, none⟩ = some (.int .i64 x) ∧ w'.cell? ⟨q, 2, none⟩ = some (.int .i64 y) ∧ w'.cell? ⟨q, 3, none⟩ = some (.int .i64 z) ∧ w'.cell? ⟨q, k, none⟩ = some (.int .i64 p))) (by kernel_rfl) (by kernel_rfl) ?_ ?_
           · exact ⟨f8_0.drew, f8_1, f8_2, f8_3, f8_4, f8_5, f8_6, f8_7⟩
           repeat (first | go_big_quiet_skip | (go_big_quiet_want; first | (refine quiet_ex ?_; apply Exists.intro; refine ⟨fun W hW => ?_, ?_⟩; (· (obtain ⟨f9_0, f9_1, f9_2, f9_3, f9_4, f9_5, f9_6, f9_7⟩ := hW; go_simp; (first | done | with_reducible rfl | rfl))); simp only [Act.put, List.setIfInBounds_toArray, List.set_cons_zero, List.set_cons_succ]; go_big_quiet_on) | (refine quiet_ex ?_; apply Exists.intro; refine ⟨fun W hW => ?_, ?_⟩; (· (go_simp; first | (go_at_call 23; (with_reducible refine (HL.out _ (HT.out.in_ hW.1)).mono ?_); rintro e w2 ⟨rfl, hb2⟩; exact ⟨rfl, HCL.out _ hW _ hb2⟩))); simp only [Act.put, List.setIfInBounds_toArray, List.set_cons_zero, List.set_cons_succ]; go_big_quiet_on)))
           refine wpQuiet_nil ?_
           rintro w' ⟨f9_0, f9_1, f9_2, f9_3, f9_4, f9_5, f9_6, f9_7⟩
           clear f8_0 f8_1 f8_2 f8_3 f8_4 f8_5 f8_6 f8_7
           obtain ⟨u2, hx9⟩ : ∃ x, x = w' := ⟨_, rfl⟩
           subst hx9
           clear HCL V1 V2
           by_cases hpz : 0 < p
           · skip
             obtain ⟨t1, t2⟩ := h3 hpz
             go_wp2
             go_roundw
             case rel => exact ⟨k + 1, by omega, by omega, by go_num, f9_0, f9_1, f9_2, f9_3, f9_4, f9_5, f9_6⟩
             case measure => simp [intOf]; omega
           go_wp2
           go_roundw
           case rel => exact ⟨k + 1, by omega, by omega, by go_num, f9_0, f9_1, f9_2, f9_3, f9_4, f9_5, f9_6⟩
           case measure => simp [intOf]; omega
         · skip
           obtain rfl : k = 4 := by omega
           clear HMK HTK hlt hk1 hk4
           go_wp2_with fail
           refine (HF1.out _).mono ?_
           rintro _ w8 ⟨rfl, hb8⟩
           have f8_0 : In w.heap.size w w8 := f7_0.step hb8
           have f8_1 : w8.cell? ⟨w1.heap.size, 0, none⟩ = some (.int .i64 a) := cell_in f7_1 ⟨hb8, hb8.size⟩
           have f8_2 : w8.cell? ⟨w1.heap.size, 1, none⟩ = some (.int .i64 b) := cell_in f7_2 ⟨hb8, hb8.size⟩
           have f8_3 : w8.cell? ⟨w1.heap.size, 2, none⟩ = some (.int .i64 c) := cell_in f7_3 ⟨hb8, hb8.size⟩
           have f8_4 : w8.cell? ⟨q, 1, none⟩ = some (.int .i64 x) := cell_in f7_4 ⟨hb8, hb8.size⟩
           have f8_5 : w8.cell? ⟨q, 2, none⟩ = some (.int .i64 y) := cell_in f7_5 ⟨hb8, hb8.size⟩
           have f8_6 : w8.cell? ⟨q, 3, none⟩ = some (.int .i64 z) := cell_in f7_6 ⟨hb8, hb8.size⟩
           clear f7_0 f7_1 f7_2 f7_3 f7_4 f7_5 f7_6
           clear hb8
           clear HF1
           go_wp2_with fail
           refine (HF2.out _).mono ?_
           rintro _ w9 ⟨rfl, hb9⟩
           have f9_0 : In w.heap.size w w9 := f8_0.step hb9
           have f9_1 : w9.cell? ⟨w1.heap.size, 0, none⟩ = some (.int .i64 a) := cell_in f8_1 ⟨hb9, hb9.size⟩
           have f9_2 : w9.cell? ⟨w1.heap.size, 1, none⟩ = some (.int .i64 b) := cell_in f8_2 ⟨hb9, hb9.size⟩
           have f9_3 : w9.cell? ⟨w1.heap.size, 2, none⟩ = some (.int .i64 c) := cell_in f8_3 ⟨hb9, hb9.size⟩
           have f9_4 : w9.cell? ⟨q, 1, none⟩ = some (.int .i64 x) := cell_in f8_4 ⟨hb9, hb9.size⟩
           have f9_5 : w9.cell? ⟨q, 2, none⟩ = some (.int .i64 y) := cell_in f8_5 ⟨hb9, hb9.size⟩
           have f9_6 : w9.cell? ⟨q, 3, none⟩ = some (.int .i64 z) := cell_in f8_6 ⟨hb9, hb9.size⟩
           clear f8_0 f8_1 f8_2 f8_3 f8_4 f8_5 f8_6
           clear hb9
           clear HF2
           cases non
           · skip
             have V3 : IntKind.i64.wrap (n + 100000) = n + 100000 := IntWalk.i64_in _ (by omega)
             have V4 : IntKind.i64.wrap (f + 1) = f + 1 := IntWalk.i64_in _ (by omega)
             have V5 : IntKind.i64.wrap (n + 1) = n + 1 := IntWalk.i64_in _ (by omega)
             have HCL := Lib.hid (show ∀ W', In w.heap.size w W' ∧ W'.cell? ⟨w1.heap.size, 0, none⟩ = some (.int .i64 a) ∧ W'.cell? ⟨w1.heap.size, 1, none⟩ = some (.int .i64 b) ∧ W'.cell? ⟨w1.heap.size, 2, none⟩ = some (.int .i64 c) ∧ W'.cell? ⟨q, 1, none⟩ = some (.int .i64 x) ∧ W'.cell? ⟨q, 2, none⟩ = some (.int .i64 y) ∧ W'.cell? ⟨q, 3, none⟩ = some (.int .i64 z) → ∀ W2, Below W'.heap.size W' W2 → In w.heap.size w W2 ∧ W2.cell? ⟨w1.heap.size, 0, none⟩ = some (.int .i64 a) ∧ W2.cell? ⟨w1.heap.size, 1, none⟩ = some (.int .i64 b) ∧ W2.cell? ⟨w1.heap.size, 2, none⟩ = some (.int .i64 c) ∧ W2.cell? ⟨q, 1, none⟩ = some (.int .i64 x) ∧ W2.cell? ⟨q, 2, none⟩ = some (.int .i64 y) ∧ W2.cell? ⟨q, 3, none⟩ = some (.int .i64 z) from fun W' h W2 hb => by
               obtain ⟨g0, g1, g2, g3, g4, g5, g6⟩ := h
               exact ⟨g0.step hb, cell_in g1 ⟨hb, hb.size⟩, cell_in g2 ⟨hb, hb.size⟩, cell_in g3 ⟨hb, hb.size⟩, cell_in g4 ⟨hb, hb.size⟩, cell_in g5 ⟨hb, hb.size⟩, cell_in g6 ⟨hb, hb.size⟩⟩)
             clear ha hb hc hf hp ex ey ez en hn gx gy gz hyx hzx
             simp only []
             iterate 20 go_step
             (try rw [List.append_eq])
             (try rw [List.append_eq])
             (repeat rw [List.cons_append])
             (repeat rw [List.nil_append])
             refine wp_region_L (C := (fun w' => In w.heap.size w w' ∧ w'.cell? ⟨w1.heap.size, 0, none⟩ = some (.int .i64 a) ∧ w'.cell? ⟨w1.heap.size, 1, none⟩ = some (.int .i64 b) ∧ w'.cell? ⟨w1.heap.size, 2, none⟩ = some (.int .i64 c) ∧ w'.cell? ⟨q, 1, none⟩ = some (.int .i64 x) ∧ w'.cell? ⟨q, 2, none⟩ = some (.int .i64 y) ∧ w'.cell? ⟨q, 3, none⟩ = some (.int .i64 z))) ?_ ?_
             · exact ⟨f9_0, f9_1, f9_2, f9_3, f9_4, f9_5, f9_6⟩
             repeat (first | go_big_quiet_skip | (go_big_quiet_want; first | (refine quiet_ex ?_; apply Exists.intro; refine ⟨fun W hW => ?_, ?_⟩; (· (obtain ⟨f10_0, f10_1, f10_2, f10_3, f10_4, f10_5, f10_6⟩ := hW; go_simp; (first | done | with_reducible rfl | rfl))); simp only [Act.put, List.setIfInBounds_toArray, List.set_cons_zero, List.set_cons_succ]; go_big_quiet_on) | (refine quiet_ex ?_; apply Exists.intro; refine ⟨fun W hW => ?_, ?_⟩; (· (go_simp; first | (go_at_call 29; (with_reducible refine (HSA.out _).mono ?_); rintro e w2 ⟨rfl, rfl⟩; exact ⟨rfl, hW⟩) | (go_at_call 21; (with_reducible refine (HM9.out _ (HT.out.in_ hW.1)).mono ?_); rintro e w2 ⟨rfl, hb2⟩; exact ⟨rfl, HCL.out _ hW _ hb2⟩))); simp only [Act.put, List.setIfInBounds_toArray, List.set_cons_zero, List.set_cons_succ]; go_big_quiet_on)))
             refine wpQuiet_nil ?_
             rintro w' ⟨f10_0, f10_1, f10_2, f10_3, f10_4, f10_5, f10_6⟩
             clear f9_0 f9_1 f9_2 f9_3 f9_4 f9_5 f9_6
             go_wp2
             go_ret
             exact ⟨ret_bool rfl, f10_0.below⟩
           · skip
             have hno := HNO.out rfl
             rw [hno] at HFW
             have V3 : IntKind.i64.wrap (n + 100000) = n + 100000 := IntWalk.i64_in _ (by omega)
             have V4 : IntKind.i64.wrap (f + 1) = f + 1 := IntWalk.i64_in _ (by omega)
             have V5 : IntKind.i64.wrap (n + 1) = n + 1 := IntWalk.i64_in _ (by omega)
             have HCL := Lib.hid (show ∀ W', In w.heap.size w W' ∧ W'.cell? ⟨w1.heap.size, 0, none⟩ = some (.int .i64 a) ∧ W'.cell? ⟨w1.heap.size, 1, none⟩ = some (.int .i64 b) ∧ W'.cell? ⟨w1.heap.size, 2, none⟩ = some (.int .i64 c) ∧ W'.cell? ⟨q, 1, none⟩ = some (.int .i64 x) ∧ W'.cell? ⟨q, 2, none⟩ = some (.int .i64 y) ∧ W'.cell? ⟨q, 3, none⟩ = some (.int .i64 z) → ∀ W2, Below W'.heap.size W' W2 → In w.heap.size w W2 ∧ W2.cell? ⟨w1.heap.size, 0, none⟩ = some (.int .i64 a) ∧ W2.cell? ⟨w1.heap.size, 1, none⟩ = some (.int .i64 b) ∧ W2.cell? ⟨w1.heap.size, 2, none⟩ = some (.int .i64 c) ∧ W2.cell? ⟨q, 1, none⟩ = some (.int .i64 x) ∧ W2.cell? ⟨q, 2, none⟩ = some (.int .i64 y) ∧ W2.cell? ⟨q, 3, none⟩ = some (.int .i64 z) from fun W' h W2 hb => by
               obtain ⟨g0, g1, g2, g3, g4, g5, g6⟩ := h
               exact ⟨g0.step hb, cell_in g1 ⟨hb, hb.size⟩, cell_in g2 ⟨hb, hb.size⟩, cell_in g3 ⟨hb, hb.size⟩, cell_in g4 ⟨hb, hb.size⟩, cell_in g5 ⟨hb, hb.size⟩, cell_in g6 ⟨hb, hb.size⟩⟩)
             clear ha hb hc hf hp ex ey ez en hn gx gy gz hyx hzx hno
             simp only []
             iterate 20 go_step
             (try rw [List.append_eq])
             (try rw [List.append_eq])
             (repeat rw [List.cons_append])
             (repeat rw [List.nil_append])
             refine wp_region_L (C := (fun w' => In w.heap.size w w' ∧ w'.cell? ⟨w1.heap.size, 0, none⟩ = some (.int .i64 a) ∧ w'.cell? ⟨w1.heap.size, 1, none⟩ = some (.int .i64 b) ∧ w'.cell? ⟨w1.heap.size, 2, none⟩ = some (.int .i64 c) ∧ w'.cell? ⟨q, 1, none⟩ = some (.int .i64 x) ∧ w'.cell? ⟨q, 2, none⟩ = some (.int .i64 y) ∧ w'.cell? ⟨q, 3, none⟩ = some (.int .i64 z))) ?_ ?_
             · exact ⟨f9_0, f9_1, f9_2, f9_3, f9_4, f9_5, f9_6⟩
             repeat (first | go_big_quiet_skip | (go_big_quiet_want; first | (refine quiet_ex ?_; apply Exists.intro; refine ⟨fun W hW => ?_, ?_⟩; (· (obtain ⟨f10_0, f10_1, f10_2, f10_3, f10_4, f10_5, f10_6⟩ := hW; go_simp; (first | done | with_reducible rfl | rfl))); simp only [Act.put, List.setIfInBounds_toArray, List.set_cons_zero, List.set_cons_succ]; go_big_quiet_on) | (refine quiet_ex ?_; apply Exists.intro; refine ⟨fun W hW => ?_, ?_⟩; (· (go_simp; first | (go_at_call 29; (with_reducible refine (HSA.out _).mono ?_); rintro e w2 ⟨rfl, rfl⟩; exact ⟨rfl, hW⟩) | (go_at_call 21; (with_reducible refine (HM9.out _ (HT.out.in_ hW.1)).mono ?_); rintro e w2 ⟨rfl, hb2⟩; exact ⟨rfl, HCL.out _ hW _ hb2⟩) | (go_at_call 26; (with_reducible refine (HFW.out _).mono ?_); rintro e w2 ⟨rfl, hb2⟩; exact ⟨rfl, HCL.out _ hW _ hb2⟩))); simp only [Act.put, List.setIfInBounds_toArray, List.set_cons_zero, List.set_cons_succ]; go_big_quiet_on)))
             refine wpQuiet_nil ?_
             rintro w' ⟨f10_0, f10_1, f10_2, f10_3, f10_4, f10_5, f10_6⟩
             clear f9_0 f9_1 f9_2 f9_3 f9_4 f9_5 f9_6
             go_wp2
             go_ret
             exact ⟨ret_bool rfl, f10_0.below⟩
  · skip
    have k3 : decide (0 < z) = false := by simp; omega
    simp only []
    iterate 9 go_step
    (try rw [List.append_eq])
    (try rw [List.append_eq])
    (repeat rw [List.cons_append])
    (repeat rw [List.nil_append])
    (try simp only [k3, Bool.and_self, Bool.false_and, Bool.and_false])
    refine wp_region_S (C := (fun w' => In w.heap.size w w' ∧ w'.cell? ⟨w1.heap.size, 0, none⟩ = some (.int .i64 a) ∧ w'.cell? ⟨w1.heap.size, 1, none⟩ = some (.int .i64 b) ∧ w'.cell? ⟨w1.heap.size, 2, none⟩ = some (.int .i64 c) ∧ w'.cell? ⟨q, 1, none⟩ = some (.int .i64 x) ∧ w'.cell? ⟨q, 2, none⟩ = some (.int .i64 y) ∧ w'.cell? ⟨q, 3, none⟩ = some (.int .i64 z))) (by kernel_rfl) (by kernel_rfl) ?_ ?_
    · exact ⟨f5_0.drew, f5_1, f5_2, f5_3, f5_4, f5_5, f5_6⟩
    repeat (first | go_big_quiet_skip | (go_big_quiet_want; first | (refine quiet_ex ?_; apply Exists.intro; refine ⟨fun W hW => ?_, ?_⟩; (· (obtain ⟨f6_0, f6_1, f6_2, f6_3, f6_4, f6_5, f6_6⟩ := hW; go_simp; (first | done | with_reducible rfl | rfl))); simp only [Act.put, List.setIfInBounds_toArray, List.set_cons_zero, List.set_cons_succ]; go_big_quiet_on) | (refine quiet_ex ?_; apply Exists.intro; refine ⟨fun W hW => ?_, ?_⟩; (· (go_simp; first | (go_at_call 21; (with_reducible refine (HM0.out _ (HT.out.in_ hW.1)).mono ?_); rintro e w2 ⟨rfl, hb2⟩; exact ⟨rfl, HCL.out _ hW _ hb2⟩) | (go_at_call 23; (with_reducible refine (HT0.out _ (HT.out.in_ hW.1)).mono ?_); rintro e w2 ⟨rfl, hb2⟩; exact ⟨rfl, HCL.out _ hW _ hb2⟩))); simp only [Act.put, List.setIfInBounds_toArray, List.set_cons_zero, List.set_cons_succ]; go_big_quiet_on)))
    refine wpQuiet_nil ?_
    rintro w' ⟨f6_0, f6_1, f6_2, f6_3, f6_4, f6_5, f6_6⟩
    clear f5_0 f5_1 f5_2 f5_3 f5_4 f5_5 f5_6
    obtain ⟨u0, hx9⟩ : ∃ x, x = w' := ⟨_, rfl⟩
    subst hx9
    clear k1 k2 k4 k5 k3 HCL HM0 HT0
    as_aux_lemma =>
     go_wp2
     go_loopw [8, 9, 10] (fun i _ _ wr => ∃ k : Nat, 1 ≤ k ∧ k ≤ 4 ∧ i = .int .i64 k ∧ (In w.heap.size w wr ∧ wr.cell? ⟨w1.heap.size, 0, none⟩ = some (.int .i64 a) ∧ wr.cell? ⟨w1.heap.size, 1, none⟩ = some (.int .i64 b) ∧ wr.cell? ⟨w1.heap.size, 2, none⟩ = some (.int .i64 c) ∧ wr.cell? ⟨q, 1, none⟩ = some (.int .i64 x) ∧ wr.cell? ⟨q, 2, none⟩ = some (.int .i64 y) ∧ wr.cell? ⟨q, 3, none⟩ = some (.int .i64 z))) (fun i _ _ _ => 4 - (intOf i).toNat)
     case atStart => exact ⟨1, by omega, by omega, rfl, f6_0, f6_1, f6_2, f6_3, f6_4, f6_5, f6_6⟩
     case round =>
       obtain ⟨k, hk1, hk4, rfl, f7_0, f7_1, f7_2, f7_3, f7_4, f7_5, f7_6⟩ := hrel
       clear f6_0 f6_1 f6_2 f6_3 f6_4 f6_5 f6_6
       by_cases hlt : k < 4
       · skip
         obtain ⟨p, t, hpt, hcell, hp0, hpn, h3, h4⟩ : ∃ p t : Int, tl4 x y z p = t ∧ wr.cell? ⟨q, k, none⟩ = some (.int .i64 p) ∧ 0 ≤ p ∧ p ≤ n ∧ (0 < p → 1 ≤ t ∧ t ≤ k) ∧ True := by
           have hk : k = 1 ∨ k = 2 ∨ k = 3 := by omega
           rcases hk with rfl | rfl | rfl
           · refine ⟨x, _, rfl, f7_4, by omega, by omega, ?_, ?_⟩
             · intro h9; unfold tl4; split <;> (try split) <;> (try split) <;> (try split) <;> omega
             · trivial
           · refine ⟨y, _, rfl, f7_5, by omega, by omega, ?_, ?_⟩
             · intro h9; unfold tl4; split <;> (try split) <;> (try split) <;> (try split) <;> omega
             · trivial
           · refine ⟨z, _, rfl, f7_6, by omega, by omega, ?_, ?_⟩
             · intro h9; unfold tl4; split <;> (try split) <;> (try split) <;> (try split) <;> omega
             · trivial
         have HK := Lib.hid (fun W h => HMK.out p hp0 hpn W h)
         have HL := Lib.hid (fun W h => HTK.out p hp0 hpn W h)
         rw [hpt] at HK HL
         have f7_7 := hcell
         have hk3 : (k : Int) ≤ 3 := by omega
         have hk0 : (1 : Int) ≤ (k : Int) := by omega
         have V1 : IntKind.i64.wrap (n - p) = n - p := by rw [IntWalk.i64_in _ (by omega)]
         have V2 : IntKind.i64.wrap (n + p) = n + p := by rw [IntWalk.i64_in _ (by omega)]
         have ix : (k : Int) < 4 := by omega
         have ix0 : (0 : Int) ≤ (k : Int) := by omega
         clear hpt hcell hlt
         have HCL := Lib.hid (show ∀ W', In w.heap.size w W' ∧ W'.cell? ⟨w1.heap.size, 0, none⟩ = some (.int .i64 a) ∧ W'.cell? ⟨w1.heap.size, 1, none⟩ = some (.int .i64 b) ∧ W'.cell? ⟨w1.heap.size, 2, none⟩ = some (.int .i64 c) ∧ W'.cell? ⟨q, 1, none⟩ = some (.int .i64 x) ∧ W'.cell? ⟨q, 2, none⟩ = some (.int .i64 y) ∧ W'.cell? ⟨q, 3, none⟩ = some (.int .i64 z) ∧ W'.cell? ⟨q, k, none⟩ = some (.int .i64 p) → ∀ W2, Below W'.heap.size W' W2 → In w.heap.size w W2 ∧ W2.cell? ⟨w1.heap.size, 0, none⟩ = some (.int .i64 a) ∧ W2.cell? ⟨w1.heap.size, 1, none⟩ = some (.int .i64 b) ∧ W2.cell? ⟨w1.heap.size, 2, none⟩ = some (.int .i64 c) ∧ W2.cell? ⟨q, 1, none⟩ = some (.int .i64 x) ∧ W2.cell? ⟨q, 2, none⟩ = some (.int .i64 y) ∧ W2.cell? ⟨q, 3, none⟩ = some (.int .i64 z) ∧ W2.cell? ⟨q, k, none⟩ = some (.int .i64 p) from fun W' h W2 hb => by
           obtain ⟨g0, g1, g2, g3, g4, g5, g6, g7⟩ := h
           exact ⟨g0.step hb, cell_in g1 ⟨hb, hb.size⟩, cell_in g2 ⟨hb, hb.size⟩, cell_in g3 ⟨hb, hb.size⟩, cell_in g4 ⟨hb, hb.size⟩, cell_in g5 ⟨hb, hb.size⟩, cell_in g6 ⟨hb, hb.size⟩, cell_in g7 ⟨hb, hb.size⟩⟩)
         go_wp2
         refine wp_region_S (C := (fun w' => In w.heap.size w w' ∧ w'.cell? ⟨w1.heap.size, 0, none⟩ = some (.int .i64 a) ∧ w'.cell? ⟨w1.heap.size, 1, none⟩ = some (.int .i64 b) ∧ w'.cell? ⟨w1.heap.size, 2, none⟩ = some (.int .i64 c) ∧ w'.cell? ⟨q, 1, none⟩ = some (.int .i64 x) ∧ w'.cell? ⟨q, 2, none⟩ = some (.int .i64 y) ∧ w'.cell? ⟨q, 3, none⟩ = some (.int .i64 z) ∧ w'.cell? ⟨q, k, none⟩ = some (.int .i64 p))) (by kernel_rfl) (by kernel_rfl) ?_ ?_
         · exact ⟨f7_0.drew, f7_1, f7_2, f7_3, f7_4, f7_5, f7_6, f7_7⟩
         repeat (first | go_big_quiet_skip | (go_big_quiet_want; first | (refine quiet_ex ?_; apply Exists.intro; refine ⟨fun W hW => ?_, ?_⟩; (· (obtain ⟨f8_0, f8_1, f8_2, f8_3, f8_4, f8_5, f8_6, f8_7⟩ := hW; go_simp; (first | done | with_reducible rfl | rfl))); simp only [Act.put, List.setIfInBounds_toArray, List.set_cons_zero, List.set_cons_succ]; go_big_quiet_on) | (refine quiet_ex ?_; apply Exists.intro; refine ⟨fun W hW => ?_, ?_⟩; (· (go_simp; first | (go_at_call 21; (with_reducible refine (HK.out _ (HT.out.in_ hW.1)).mono ?_); rintro e w2 ⟨rfl, hb2⟩; exact ⟨rfl, HCL.out _ hW _ hb2⟩))); simp only [Act.put, List.setIfInBounds_toArray, List.set_cons_zero, List.set_cons_succ]; go_big_quiet_on)))
         refine wpQuiet_nil ?_
         rintro w' ⟨f8_0, f8_1, f8_2, f8_3, f8_4, f8_5, f8_6, f8_7⟩
         clear f7_0 f7_1 f7_2 f7_3 f7_4 f7_5 f7_6 f7_7
         obtain ⟨u1, hx9⟩ : ∃ x, x = w' := ⟨_, rfl⟩
         subst hx9
         go_wp2
         clear HCL
         have HCL := Lib.hid (show ∀ W', In w.heap.size w W' ∧ W'.cell? ⟨w1.heap.size, 0, none⟩ = some (.int .i64 a) ∧ W'.cell? ⟨w1.heap.size, 1, none⟩ = some (.int .i64 b) ∧ W'.cell? ⟨w1.heap.size, 2, none⟩ = some (.int .i64 c) ∧ W'.cell? ⟨q, 1, none⟩ = some (.int .i64 x) ∧ W'.cell? ⟨q, 2, none⟩ = some (.int .i64 y) ∧ W'.cell? ⟨q, 3, none⟩ = some (.int .i64 z) ∧ W'.cell? ⟨q, k, none⟩ = some (.int .i64 p) → ∀ W2, Below W'.heap.size W' W2 → In w.heap.size w W2 ∧ W2.cell? ⟨w1.heap.size, 0, none⟩ = some (.int .i64 a) ∧ W2.cell? ⟨w1.heap.size, 1, none⟩ = some (.int .i64 b) ∧ W2.cell? ⟨w1.heap.size, 2, none⟩ = some (.int .i64 c) ∧ W2.cell? ⟨q, 1, none⟩ = some (.int .i64 x) ∧ W2.cell? ⟨q, 2, none⟩ = some (.int .i64 y) ∧ W2.cell? ⟨q, 3, none⟩ = some (.int .i64 z) ∧ W2.cell? ⟨q, k, none⟩ = some (.int .i64 p) from fun W' h W2 hb => by
           obtain ⟨g0, g1, g2, g3, g4, g5, g6, g7⟩ := h
           exact ⟨g0.step hb, cell_in g1 ⟨hb, hb.size⟩, cell_in g2 ⟨hb, hb.size⟩, cell_in g3 ⟨hb, hb.size⟩, cell_in g4 ⟨hb, hb.size⟩, cell_in g5 ⟨hb, hb.size⟩, cell_in g6 ⟨hb, hb.size⟩, cell_in g7 ⟨hb, hb.size⟩⟩)
         refine wp_region_S (C := (fun w' => In w.heap.size w w' ∧ w'.cell? ⟨w1.heap.size, 0, none⟩ = some (.int .i64 a) ∧ w'.cell? ⟨w1.heap.size, 1, none⟩ = some (.int .i64 b) ∧ w'.cell? ⟨w1.heap.size, 2, none⟩ = some (.int .i64 c) ∧ w'.cell? ⟨q, 1, none⟩ = some (.int .i64 x) ∧ w'.cell? ⟨q, 2, none⟩ = some (.int .i64 y) ∧ w'.cell? ⟨q, 3, none⟩ = some (.int .i64 z) ∧ w'.cell? ⟨q, k, none⟩ = some (.int .i64 p))) (by kernel_rfl) (by kernel_rfl) ?_ ?_
         · exact ⟨f8_0.drew, f8_1, f8_2, f8_3, f8_4, f8_5, f8_6, f8_7⟩
         repeat (first | go_big_quiet_skip | (go_big_quiet_want; first | (refine quiet_ex ?_; apply Exists.intro; refine ⟨fun W hW => ?_, ?_⟩; (· (obtain ⟨f9_0, f9_1, f9_2, f9_3, f9_4, f9_5, f9_6, f9_7⟩ := hW; go_simp; (first | done | with_reducible rfl | rfl))); simp only [Act.put, List.setIfInBounds_toArray, List.set_cons_zero, List.set_cons_succ]; go_big_quiet_on) | (refine quiet_ex ?_; apply Exists.intro; refine ⟨fun W hW => ?_, ?_⟩; (· (go_simp; first | (go_at_call 23; (with_reducible refine (HL.out _ (HT.out.in_ hW.1)).mono ?_); rintro e w2 ⟨rfl, hb2⟩; exact ⟨rfl, HCL.out _ hW _ hb2⟩))); simp only [Act.put, List.setIfInBounds_toArray, List.set_cons_zero, List.set_cons_succ]; go_big_quiet_on)))
         refine wpQuiet_nil ?_
         rintro w' ⟨f9_0, f9_1, f9_2, f9_3, f9_4, f9_5, f9_6, f9_7⟩
         clear f8_0 f8_1 f8_2 f8_3 f8_4 f8_5 f8_6 f8_7
         obtain ⟨u2, hx9⟩ : ∃ x, x = w' := ⟨_, rfl⟩
         subst hx9
         clear HCL V1 V2
         by_cases hpz : 0 < p
         · skip
           obtain ⟨t1, t2⟩ := h3 hpz
           go_wp2
           go_roundw
           case rel => exact ⟨k + 1, by omega, by omega, by go_num, f9_0, f9_1, f9_2, f9_3, f9_4, f9_5, f9_6⟩
           case measure => simp [intOf]; omega
         go_wp2
         go_roundw
         case rel => exact ⟨k + 1, by omega, by omega, by go_num, f9_0, f9_1, f9_2, f9_3, f9_4, f9_5, f9_6⟩
         case measure => simp [intOf]; omega
       · skip
         obtain rfl : k = 4 := by omega
         clear HMK HTK hlt hk1 hk4
         go_wp2_with fail
         refine (HF1.out _).mono ?_
         rintro _ w8 ⟨rfl, hb8⟩
         have f8_0 : In w.heap.size w w8 := f7_0.step hb8
         have f8_1 : w8.cell? ⟨w1.heap.size, 0, none⟩ = some (.int .i64 a) := cell_in f7_1 ⟨hb8, hb8.size⟩
         have f8_2 : w8.cell? ⟨w1.heap.size, 1, none⟩ = some (.int .i64 b) := cell_in f7_2 ⟨hb8, hb8.size⟩
         have f8_3 : w8.cell? ⟨w1.heap.size, 2, none⟩ = some (.int .i64 c) := cell_in f7_3 ⟨hb8, hb8.size⟩
         have f8_4 : w8.cell? ⟨q, 1, none⟩ = some (.int .i64 x) := cell_in f7_4 ⟨hb8, hb8.size⟩
         have f8_5 : w8.cell? ⟨q, 2, none⟩ = some (.int .i64 y) := cell_in f7_5 ⟨hb8, hb8.size⟩
         have f8_6 : w8.cell? ⟨q, 3, none⟩ = some (.int .i64 z) := cell_in f7_6 ⟨hb8, hb8.size⟩
         clear f7_0 f7_1 f7_2 f7_3 f7_4 f7_5 f7_6
         clear hb8
         clear HF1
         go_wp2_with fail
         refine (HF2.out _).mono ?_
         rintro _ w9 ⟨rfl, hb9⟩
         have f9_0 : In w.heap.size w w9 := f8_0.step hb9
         have f9_1 : w9.cell? ⟨w1.heap.size, 0, none⟩ = some (.int .i64 a) := cell_in f8_1 ⟨hb9, hb9.size⟩
         have f9_2 : w9.cell? ⟨w1.heap.size, 1, none⟩ = some (.int .i64 b) := cell_in f8_2 ⟨hb9, hb9.size⟩
         have f9_3 : w9.cell? ⟨w1.heap.size, 2, none⟩ = some (.int .i64 c) := cell_in f8_3 ⟨hb9, hb9.size⟩
         have f9_4 : w9.cell? ⟨q, 1, none⟩ = some (.int .i64 x) := cell_in f8_4 ⟨hb9, hb9.size⟩
         have f9_5 : w9.cell? ⟨q, 2, none⟩ = some (.int .i64 y) := cell_in f8_5 ⟨hb9, hb9.size⟩
         have f9_6 : w9.cell? ⟨q, 3, none⟩ = some (.int .i64 z) := cell_in f8_6 ⟨hb9, hb9.size⟩
         clear f8_0 f8_1 f8_2 f8_3 f8_4 f8_5 f8_6
         clear hb9
         clear HF2
         cases non
         · skip
           have V3 : IntKind.i64.wrap (n + 100000) = n + 100000 := IntWalk.i64_in _ (by omega)
           have V4 : IntKind.i64.wrap (f + 1) = f + 1 := IntWalk.i64_in _ (by omega)
           have V5 : IntKind.i64.wrap (n + 1) = n + 1 := IntWalk.i64_in _ (by omega)
           have HCL := Lib.hid (show ∀ W', In w.heap.size w W' ∧ W'.cell? ⟨w1.heap.size, 0, none⟩ = some (.int .i64 a) ∧ W'.cell? ⟨w1.heap.size, 1, none⟩ = some (.int .i64 b) ∧ W'.cell? ⟨w1.heap.size, 2, none⟩ = some (.int .i64 c) ∧ W'.cell? ⟨q, 1, none⟩ = some (.int .i64 x) ∧ W'.cell? ⟨q, 2, none⟩ = some (.int .i64 y) ∧ W'.cell? ⟨q, 3, none⟩ = some (.int .i64 z) → ∀ W2, Below W'.heap.size W' W2 → In w.heap.size w W2 ∧ W2.cell? ⟨w1.heap.size, 0, none⟩ = some (.int .i64 a) ∧ W2.cell? ⟨w1.heap.size, 1, none⟩ = some (.int .i64 b) ∧ W2.cell? ⟨w1.heap.size, 2, none⟩ = some (.int .i64 c) ∧ W2.cell? ⟨q, 1, none⟩ = some (.int .i64 x) ∧ W2.cell? ⟨q, 2, none⟩ = some (.int .i64 y) ∧ W2.cell? ⟨q, 3, none⟩ = some (.int .i64 z) from fun W' h W2 hb => by
             obtain ⟨g0, g1, g2, g3, g4, g5, g6⟩ := h
             exact ⟨g0.step hb, cell_in g1 ⟨hb, hb.size⟩, cell_in g2 ⟨hb, hb.size⟩, cell_in g3 ⟨hb, hb.size⟩, cell_in g4 ⟨hb, hb.size⟩, cell_in g5 ⟨hb, hb.size⟩, cell_in g6 ⟨hb, hb.size⟩⟩)
           clear ha hb hc hf hp ex ey ez en hn gx gy gz hyx hzx
           simp only []
           iterate 20 go_step
           (try rw [List.append_eq])
           (try rw [List.append_eq])
           (repeat rw [List.cons_append])
           (repeat rw [List.nil_append])
           refine wp_region_L (C := (fun w' => In w.heap.size w w' ∧ w'.cell? ⟨w1.heap.size, 0, none⟩ = some (.int .i64 a) ∧ w'.cell? ⟨w1.heap.size, 1, none⟩ = some (.int .i64 b) ∧ w'.cell? ⟨w1.heap.size, 2, none⟩ = some (.int .i64 c) ∧ w'.cell? ⟨q, 1, none⟩ = some (.int .i64 x) ∧ w'.cell? ⟨q, 2, none⟩ = some (.int .i64 y) ∧ w'.cell? ⟨q, 3, none⟩ = some (.int .i64 z))) ?_ ?_
           · exact ⟨f9_0, f9_1, f9_2, f9_3, f9_4, f9_5, f9_6⟩
           repeat (first | go_big_quiet_skip | (go_big_quiet_want; first | (refine quiet_ex ?_; apply Exists.intro; refine ⟨fun W hW => ?_, ?_⟩; (· (obtain ⟨f10_0, f10_1, f10_2, f10_3, f10_4, f10_5, f10_6⟩ := hW; go_simp; (first | done | with_reducible rfl | rfl))); simp only [Act.put, List.setIfInBounds_toArray, List.set_cons_zero, List.set_cons_succ]; go_big_quiet_on) | (refine quiet_ex ?_; apply Exists.intro; refine ⟨fun W hW => ?_, ?_⟩; (· (go_simp; first | (go_at_call 29; (with_reducible refine (HSA.out _).mono ?_); rintro e w2 ⟨rfl, rfl⟩; exact ⟨rfl, hW⟩) | (go_at_call 21; (with_reducible refine (HM9.out _ (HT.out.in_ hW.1)).mono ?_); rintro e w2 ⟨rfl, hb2⟩; exact ⟨rfl, HCL.out _ hW _ hb2⟩))); simp only [Act.put, List.setIfInBounds_toArray, List.set_cons_zero, List.set_cons_succ]; go_big_quiet_on)))
           refine wpQuiet_nil ?_
           rintro w' ⟨f10_0, f10_1, f10_2, f10_3, f10_4, f10_5, f10_6⟩
           clear f9_0 f9_1 f9_2 f9_3 f9_4 f9_5 f9_6
           go_wp2
           go_ret
           exact ⟨ret_bool rfl, f10_0.below⟩
         · skip
           have hno := HNO.out rfl
           rw [hno] at HFW
           have V3 : IntKind.i64.wrap (n + 100000) = n + 100000 := IntWalk.i64_in _ (by omega)
           have V4 : IntKind.i64.wrap (f + 1) = f + 1 := IntWalk.i64_in _ (by omega)
           have V5 : IntKind.i64.wrap (n + 1) = n + 1 := IntWalk.i64_in _ (by omega)
           have HCL := Lib.hid (show ∀ W', In w.heap.size w W' ∧ W'.cell? ⟨w1.heap.size, 0, none⟩ = some (.int .i64 a) ∧ W'.cell? ⟨w1.heap.size, 1, none⟩ = some (.int .i64 b) ∧ W'.cell? ⟨w1.heap.size, 2, none⟩ = some (.int .i64 c) ∧ W'.cell? ⟨q, 1, none⟩ = some (.int .i64 x) ∧ W'.cell? ⟨q, 2, none⟩ = some (.int .i64 y) ∧ W'.cell? ⟨q, 3, none⟩ = some (.int .i64 z) → ∀ W2, Below W'.heap.size W' W2 → In w.heap.size w W2 ∧ W2.cell? ⟨w1.heap.size, 0, none⟩ = some (.int .i64 a) ∧ W2.cell? ⟨w1.heap.size, 1, none⟩ = some (.int .i64 b) ∧ W2.cell? ⟨w1.heap.size, 2, none⟩ = some (.int .i64 c) ∧ W2.cell? ⟨q, 1, none⟩ = some (.int .i64 x) ∧ W2.cell? ⟨q, 2, none⟩ = some (.int .i64 y) ∧ W2.cell? ⟨q, 3, none⟩ = some (.int .i64 z) from fun W' h W2 hb => by
             obtain ⟨g0, g1, g2, g3, g4, g5, g6⟩ := h
             exact ⟨g0.step hb, cell_in g1 ⟨hb, hb.size⟩, cell_in g2 ⟨hb, hb.size⟩, cell_in g3 ⟨hb, hb.size⟩, cell_in g4 ⟨hb, hb.size⟩, cell_in g5 ⟨hb, hb.size⟩, cell_in g6 ⟨hb, hb.size⟩⟩)
           clear ha hb hc hf hp ex ey ez en hn gx gy gz hyx hzx hno
           simp only []
           iterate 20 go_step
           (try rw [List.append_eq])
           (try rw [List.append_eq])
           (repeat rw [List.cons_append])
           (repeat rw [List.nil_append])
           refine wp_region_L (C := (fun w' => In w.heap.size w w' ∧ w'.cell? ⟨w1.heap.size, 0, none⟩ = some (.int .i64 a) ∧ w'.cell? ⟨w1.heap.size, 1, none⟩ = some (.int .i64 b) ∧ w'.cell? ⟨w1.heap.size, 2, none⟩ = some (.int .i64 c) ∧ w'.cell? ⟨q, 1, none⟩ = some (.int .i64 x) ∧ w'.cell? ⟨q, 2, none⟩ = some (.int .i64 y) ∧ w'.cell? ⟨q, 3, none⟩ = some (.int .i64 z))) ?_ ?_
           · exact ⟨f9_0, f9_1, f9_2, f9_3, f9_4, f9_5, f9_6⟩
           repeat (first | go_big_quiet_skip | (go_big_quiet_want; first | (refine quiet_ex ?_; apply Exists.intro; refine ⟨fun W hW => ?_, ?_⟩; (· (obtain ⟨f10_0, f10_1, f10_2, f10_3, f10_4, f10_5, f10_6⟩ := hW; go_simp; (first | done | with_reducible rfl | rfl))); simp only [Act.put, List.setIfInBounds_toArray, List.set_cons_zero, List.set_cons_succ]; go_big_quiet_on) | (refine quiet_ex ?_; apply Exists.intro; refine ⟨fun W hW => ?_, ?_⟩; (· (go_simp; first | (go_at_call 29; (with_reducible refine (HSA.out _).mono ?_); rintro e w2 ⟨rfl, rfl⟩; exact ⟨rfl, hW⟩) | (go_at_call 21; (with_reducible refine (HM9.out _ (HT.out.in_ hW.1)).mono ?_); rintro e w2 ⟨rfl, hb2⟩; exact ⟨rfl, HCL.out _ hW _ hb2⟩) | (go_at_call 26; (with_reducible refine (HFW.out _).mono ?_); rintro e w2 ⟨rfl, hb2⟩; exact ⟨rfl, HCL.out _ hW _ hb2⟩))); simp only [Act.put, List.setIfInBounds_toArray, List.set_cons_zero, List.set_cons_succ]; go_big_quiet_on)))
           refine wpQuiet_nil ?_
           rintro w' ⟨f10_0, f10_1, f10_2, f10_3, f10_4, f10_5, f10_6⟩
           clear f9_0 f9_1 f9_2 f9_3 f9_4 f9_5 f9_6
           go_wp2
           go_ret
           exact ⟨ret_bool rfl, f10_0.below⟩
 end Go.Proofs.YtoljdgmfpebhdaaDoor
