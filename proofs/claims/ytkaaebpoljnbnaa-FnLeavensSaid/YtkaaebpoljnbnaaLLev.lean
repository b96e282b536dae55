/- The law FnLeavens. -/
import Derived.Test.YtkaaebpoljnbnaaLvP
import Derived.Test.YtkaaebpoljnbnaaAll
import Derived.Test.YtkaaebpoljnbnaaDrw
import Derived.Test.YtkaaebpoljnbnaaAtAll
import Derived.Test.YtkaaebpoljnbnaaQuietL
import Derived.BigQuiet
import Derived.Deep.QuietTactic
namespace Go.Proofs.Ytkaaebpoljnbnaa
open Go.ChangeShapes Go.WideShapes Go.ChangeAt Go.RowKit
set_option linter.unusedVariables false
set_option linter.unusedSimpArgs false
set_option maxHeartbeats 2000000

theorem day_all (ds : List Int) {t G : Int} {k : Nat} (hk : k < 3) (ht : 1 ≤ t ∧ t ≤ 4) (hd : 0 ≤ ds.getD k 0 ∧ ds.getD k 0 ≤ 255) (h0 : 0 ≤ G) (hb : G ≤ bnd (3 - k)) :
    ∃ (g2 f2 g3 f3 : Int) (c e : Bool), feedV G k t = .tuple #[.agg #[.int .i64 g2, .int .i64 f2], .bool c] ∧ takeV g2 f2 (ds.getD k 0) 1 = .tuple #[.agg #[.int .i64 g3, .int .i64 f3], .bool e] ∧
      ((c && e) = true → 0 ≤ g3 ∧ g3 ≤ bnd (3 - (k + 1)) ∧ f3 = (k : Int) + 1 ∧ valF ds t 3 (3 - k) G = valF ds t 3 (3 - (k + 1)) g3) ∧ ((c && e) = false → valF ds t 3 (3 - k) G = 0) := by
  rcases day_law ds hk ht hd h0 hb with ⟨_, g2, f2, h1, ⟨g3, f3, e, h2⟩, h3⟩ | ⟨h1, ⟨g3, f3, h2, h3⟩ | ⟨h2, h3, h4, h5⟩⟩
  · exact ⟨g2, f2, g3, f3, false, e, h1, h2, fun h => (by simp at h), fun _ => h3⟩
  · exact ⟨_, _, g3, f3, true, false, h1, h2, fun h => (by simp at h), fun _ => h3⟩
  · exact ⟨_, _, _, _, true, true, h1, h2, fun _ => ⟨h3, h4, rfl, h5⟩, fun h => (by simp at h)⟩
theorem box3 {w W w3 : World} {B g : Nat} {t : TypeId} {x y : Value} (i : In B w W) (k : Blk W g t #[x, y]) (hb : Below (W.alloc (.cells #[.int .i64 0, .int .i64 0] t)).drew.heap.size (W.alloc (.cells #[.int .i64 0, .int .i64 0] t)).drew w3) :
    (In B w w3 ∧ Blk w3 g t #[x, y] ∧ w3.cell? ⟨g, 0, none⟩ = some x ∧ w3.cell? ⟨g, 1, none⟩ = some y ∧ w3.frozen? ⟨g, 0, none⟩ = false ∧ w3.frozen? ⟨g, 1, none⟩ = false ∧ g < w3.heap.size) ∧
    w3.frozen? ⟨W.heap.size, 0, none⟩ = false ∧ w3.frozen? ⟨W.heap.size, 1, none⟩ = false ∧ w3.cell? ⟨W.heap.size, 0, none⟩ = some (.int .i64 0) ∧ w3.cell? ⟨W.heap.size, 1, none⟩ = some (.int .i64 0) ∧ W.heap.size < w3.heap.size := by
  have q := Blk.step (Blk.new W t #[.int .i64 0, .int .i64 0]).drew hb
  exact ⟨box2 (i.alloc _) (k.alloc _) hb, q.frozen 0, q.frozen 1, q.cell 0, q.cell 1, q.lt⟩
set_option maxHeartbeats 80000000 in
set_option maxRecDepth 20000 in
theorem walk_FnLeavens (a0 : Option Addr) (len0 cap0 : Nat) (z0 : List Int) (w : World) (w0 : IsRow .u8 w a0 len0 cap0 z0) :
    Calls Try.prog 3 #[.slice a0 len0 cap0] w fun e w' => e = .returned (.bool true) ∧ Below w.heap.size w w' := by
  have hb := ReadsU.of_row w0
  have hm := hb.1
  clear w0
  by_cases hbig : (1048576 : Int) < (len0 : Int)
  · go_enter Try.func3, Try.ntmps3
    go_wp2_with fail
    refine (bigU _ _ _ _ hm true (by simpa using hbig)).mono ?_
    rintro e w' ⟨rfl, rfl⟩
    go_wp2_with fail
    go_ret
    exact ⟨rfl, Below.refl _ _⟩
  have HB := Lib.hid hb
  obtain ⟨x0, h0, A0⟩ := at_all a0 len0 cap0 0 w (by omega) (by omega) hb
  have HA0 := Lib.hid A0
  clear A0
  obtain ⟨x1, h1, A1⟩ := at_all a0 len0 cap0 1 w (by omega) (by omega) hb
  have HA1 := Lib.hid A1
  clear A1
  obtain ⟨x2, h2, A2⟩ := at_all a0 len0 cap0 2 w (by omega) (by omega) hb
  have HA2 := Lib.hid A2
  clear A2
  obtain ⟨x3, h3, A3⟩ := at_all a0 len0 cap0 3 w (by omega) (by omega) hb
  have HA3 := Lib.hid A3
  clear A3
  obtain ⟨x4, h4, A4⟩ := at_all a0 len0 cap0 4 w (by omega) (by omega) hb
  have HA4 := Lib.hid A4
  clear A4
  obtain ⟨x5, h5, A5⟩ := at_all a0 len0 cap0 5 w (by omega) (by omega) hb
  have HA5 := Lib.hid A5
  clear A5
  go_enter Try.func3, Try.ntmps3
  go_wp2_with fail
  refine (bigU _ _ _ _ hm false (by simpa using hbig)).mono ?_
  rintro e w' ⟨rfl, rfl⟩
  clear hbig hm hb
  have f0_0 : In w.heap.size w w := In.refl w
  have f0_1 := HB.out
  go_wp2_with fail
  refine (drawLeaven _ _ _ _ (bytes_of f0_1)).mono ?_
  rintro _ w1 ⟨u0, u1, hu, rfl, hb1⟩
  have f1_0 : In w.heap.size w w1 := f0_0.step hb1
  clear f0_0 f0_1
  clear hb1
  have hg : 1 ≤ 1 + u0 ∧ 1 + u0 ≤ 250 := by omega
  generalize 1 + u0 = G at *
  have hf : 0 ≤ u1 ∧ u1 ≤ 19 := by omega
  clear hu
  go_wp2_with fail
  have kb2 : Blk (w1.alloc (.cells #[.int .i64 G, .int .i64 u1] 25)) w1.heap.size 25 #[.int .i64 G, .int .i64 u1] := Blk.new w1 _ _
  have hb2 : Below w1.heap.size w1 (w1.alloc (.cells #[.int .i64 G, .int .i64 u1] 25)) := (Below.refl _ w1).alloc (Nat.le_refl _) _
  have f2_0 : In w.heap.size w (w1.alloc (.cells #[.int .i64 G, .int .i64 u1] 25)) := f1_0.step hb2
  have f2_1 : (w1.alloc (.cells #[.int .i64 G, .int .i64 u1] 25)).cell? ⟨w1.heap.size, 0, none⟩ = some (.int .i64 G) := kb2.cell 0
  have f2_2 : (w1.alloc (.cells #[.int .i64 G, .int .i64 u1] 25)).cell? ⟨w1.heap.size, 1, none⟩ = some (.int .i64 u1) := kb2.cell 1
  clear f1_0
  clear kb2 hb2
  refine (HA0.out _ f2_0).mono ?_
  rintro e w' ⟨rfl, rfl⟩
  clear HA0
  go_wp2_with fail
  have ht : 1 ≤ 1 + x0 % 4 ∧ 1 + x0 % 4 ≤ 4 := by omega
  generalize 1 + x0 % 4 = t at *
  clear h0
  have qF : G * (t + 1) ≤ 250 * 5 := Int.le_trans (Int.mul_le_mul_of_nonneg_left (show t + 1 ≤ 5 by omega) (by omega)) (by omega)
  have qF0 : 0 ≤ G * (t + 1) := Int.mul_nonneg (by omega) (by omega)
  have HF := Lib.hid (fun W => iFeed G u1 t W)
  rw [feedV_ok (by omega) (by omega) ht] at HF
  refine (HF.out _).mono ?_
  rintro _ w3 ⟨rfl, hb3⟩
  have f3_0 : In w.heap.size w w3 := f2_0.step hb3
  have f3_1 : w3.cell? ⟨w1.heap.size, 0, none⟩ = some (.int .i64 G) := cell_in f2_1 ⟨hb3, hb3.size⟩
  have f3_2 : w3.cell? ⟨w1.heap.size, 1, none⟩ = some (.int .i64 u1) := cell_in f2_2 ⟨hb3, hb3.size⟩
  clear f2_0 f2_1 f2_2
  clear hb3
  clear HF
  go_wp2_with fail
  have kb4 : Blk (w3.alloc (.cells #[.int .i64 (G * (t + 1)), .int .i64 (u1 + 1)] 25)) w3.heap.size 25 #[.int .i64 (G * (t + 1)), .int .i64 (u1 + 1)] := Blk.new w3 _ _
  have hb4 : Below w3.heap.size w3 (w3.alloc (.cells #[.int .i64 (G * (t + 1)), .int .i64 (u1 + 1)] 25)) := (Below.refl _ w3).alloc (Nat.le_refl _) _
  have f4_0 : In w.heap.size w (w3.alloc (.cells #[.int .i64 (G * (t + 1)), .int .i64 (u1 + 1)] 25)) := f3_0.step hb4
  have f4_1 : (w3.alloc (.cells #[.int .i64 (G * (t + 1)), .int .i64 (u1 + 1)] 25)).cell? ⟨w1.heap.size, 0, none⟩ = some (.int .i64 G) := cell_in f3_1 ⟨hb4, hb4.size⟩
  have f4_2 : (w3.alloc (.cells #[.int .i64 (G * (t + 1)), .int .i64 (u1 + 1)] 25)).cell? ⟨w1.heap.size, 1, none⟩ = some (.int .i64 u1) := cell_in f3_2 ⟨hb4, hb4.size⟩
  have f4_3 : (w3.alloc (.cells #[.int .i64 (G * (t + 1)), .int .i64 (u1 + 1)] 25)).cell? ⟨w3.heap.size, 0, none⟩ = some (.int .i64 (G * (t + 1))) := kb4.cell 0
  have f4_4 : (w3.alloc (.cells #[.int .i64 (G * (t + 1)), .int .i64 (u1 + 1)] 25)).cell? ⟨w3.heap.size, 1, none⟩ = some (.int .i64 (u1 + 1)) := kb4.cell 1
  clear f3_0 f3_1 f3_2
  clear kb4 hb4
  refine (HA1.out _ f4_0).mono ?_
  rintro e w' ⟨rfl, rfl⟩
  clear HA1
  go_wp2_with fail
  obtain ⟨need, hneed⟩ : ∃ y, x1 * 10 = y := ⟨_, rfl⟩
  have V1 : IntKind.i64.wrap (x1 * 10) = need := by rw [IntWalk.i64_in _ (by omega)]; exact hneed
  have hnd : 0 ≤ need ∧ need ≤ 2550 := by omega
  obtain ⟨N, hN, eN, hlow, hend, hin⟩ := feeds_law hg hf ht hnd
  have HN := Lib.hid (fun W => iFeedingsFor G u1 t need W)
  rw [eN] at HN
  clear eN
  (try rw [hneed])
  refine (HN.out _).mono ?_
  rintro _ w5 ⟨rfl, hb5⟩
  have f5_0 : In w.heap.size w w5 := f4_0.step hb5
  have f5_1 : w5.cell? ⟨w1.heap.size, 0, none⟩ = some (.int .i64 G) := cell_in f4_1 ⟨hb5, hb5.size⟩
  have f5_2 : w5.cell? ⟨w1.heap.size, 1, none⟩ = some (.int .i64 u1) := cell_in f4_2 ⟨hb5, hb5.size⟩
  have f5_3 : w5.cell? ⟨w3.heap.size, 0, none⟩ = some (.int .i64 (G * (t + 1))) := cell_in f4_3 ⟨hb5, hb5.size⟩
  have f5_4 : w5.cell? ⟨w3.heap.size, 1, none⟩ = some (.int .i64 (u1 + 1)) := cell_in f4_4 ⟨hb5, hb5.size⟩
  clear f4_0 f4_1 f4_2 f4_3 f4_4
  clear hb5
  clear HN
  have hN0 : (0 : Int) ≤ (N : Int) := by omega
  obtain ⟨FG, hFG⟩ : ∃ y, G * (t + 1) = y := ⟨_, rfl⟩
  have V2 : IntKind.i64.wrap (t + 1) = t + 1 := IntWalk.i64_in _ (by omega)
  have V3 : IntKind.i64.wrap (G * (t + 1)) = FG := by rw [hFG]; exact IntWalk.i64_in _ (by omega)
  have V4 : IntKind.i64.wrap (u1 + 1) = u1 + 1 := by rw [IntWalk.i64_in _ (by omega)]
  have d1 : decide ((N : Int) < 0) = false := decide_eq_false (by omega)
  (try simp only [hFG])
  rw [hFG] at f5_3
  clear hneed hFG
  go_wp2
  clear V2 V3 V4 d1
  have q0 : Blk (w5.alloc (.cells #[.int .i64 G, .int .i64 u1] 25)) w5.heap.size 25 #[.int .i64 G, .int .i64 u1] := Blk.new w5 _ _
  have i0 : In w5.heap.size w5 (w5.alloc (.cells #[.int .i64 G, .int .i64 u1] 25)) := (In.refl w5).alloc _
  have HLO := Lib.hid hlow
  have HIN := Lib.hid hin
  clear hlow hin
  go_loopw [10] (fun i wr => ∃ k : Nat, k ≤ N ∧ i = .int .i64 k ∧ In w5.heap.size w5 wr ∧ Blk wr w5.heap.size 25 #[.int .i64 (gN G t k), .int .i64 (u1 + k)]) (fun i _ => N - (intOf i).toNat)
  case atStart => exact ⟨0, Nat.zero_le _, rfl, i0, by rw [show u1 + ((0 : Nat) : Int) = u1 by omega]; exact q0⟩
  case round =>
    obtain ⟨k, hk, rfl, i1, k1⟩ := hrel
    clear q0 i0
    have c0 : wr.cell? ⟨w5.heap.size, 0, none⟩ = some (.int .i64 (gN G t k)) := k1.cell 0
    have c1 : wr.cell? ⟨w5.heap.size, 1, none⟩ = some (.int .i64 (u1 + k)) := k1.cell 1
    have hgk := HIN.out k hk
    by_cases hlt : k < N
    · skip
      have hl := HLO.out k hlt
      have d1 : decide (need ≤ gN G t k) = false := decide_eq_false (by omega)
      have HF := Lib.hid (fun W => iFeed (gN G t k) (u1 + k) t W)
      rw [feedV_ok (by omega) (by omega) ht] at HF
      have HG1 := Lib.hid (show gN G t (k + 1) = gN G t k * (t + 1) from rfl)
      generalize gN G t k * (t + 1) = G9 at *
      generalize gN G t k = G8 at *
      have hkI : (k : Int) < (N : Int) := by omega
      have d2 : decide ((k : Int) < (N : Int)) = true := decide_eq_true hkI
      go_wp2_with fail
      refine (HF.out _).mono ?_
      rintro _ w6 ⟨rfl, hb6⟩
      clear HF
      have k2 := Blk.step k1 hb6
      have i2 := i1.step hb6
      have e0 : w6.cell? ⟨w5.heap.size, 0, none⟩ = some (.int .i64 G8) := k2.cell 0
      have e1 : w6.cell? ⟨w5.heap.size, 1, none⟩ = some (.int .i64 (u1 + k)) := k2.cell 1
      have z0 := k2.frozen 0
      have z1 := k2.frozen 1
      have hw2 := k2.lt
      clear hb6 k1 i1 c0 c1 d1 d2
      go_wp2
      go_roundw
      case rel =>
        have k3 := (k2.set_ 0 (.int .i64 G9)).set_ 1 (.int .i64 (u1 + k + 1))
        have i3 := (i2.set_ (p := ⟨w5.heap.size, 0, none⟩) (Nat.le_refl _) (.int .i64 G9)).set_ (p := ⟨w5.heap.size, 1, none⟩) (Nat.le_refl _) (.int .i64 (u1 + k + 1))
        refine ⟨k + 1, by omega, by go_num, i3, ?_⟩
        rw [HG1.out, show u1 + ((k + 1 : Nat) : Int) = u1 + k + 1 by omega]
        exact k3
      case measure => simp [intOf]; omega
    · skip
      obtain rfl : N = k := by omega
      have d1 : decide (need ≤ gN G t N) = true := decide_eq_true (by omega)
      have d0 : decide (gN G t N < need) = false := decide_eq_false (by omega)
      have d2 : decide ((N : Int) < (N : Int)) = false := decide_eq_false (by omega)
      generalize gN G t N = G8 at *
      have f6_0 : In w.heap.size w wr := f5_0.step i1.below
      have f6_1 : wr.cell? ⟨w1.heap.size, 0, none⟩ = some (.int .i64 G) := cell_in f5_1 ⟨i1.below, i1.below.size⟩
      have f6_2 : wr.cell? ⟨w1.heap.size, 1, none⟩ = some (.int .i64 u1) := cell_in f5_2 ⟨i1.below, i1.below.size⟩
      clear f5_0 f5_1 f5_2
      clear i1 k1 hlt hk HIN HLO c1 d1 hN0 hend
      go_wp2_with fail
      have hg1 : (0 : Int) < G + 1 := by omega
      have hcr := Int.emod_nonneg x2 (show G + 1 ≠ 0 by omega)
      have hcs := Int.emod_lt_of_pos x2 hg1
      have hgz : ¬ (G + 1 = 0) := by omega
      have V5 : IntKind.i64.wrap (G + 1) = G + 1 := by rw [IntWalk.i64_in _ (by omega)]
      clear d0 d2 c0
      refine wp_region_S (C := (fun w' => In w.heap.size w w' ∧ w'.cell? ⟨w1.heap.size, 0, none⟩ = some (.int .i64 G) ∧ w'.cell? ⟨w1.heap.size, 1, none⟩ = some (.int .i64 u1))) (by kernel_rfl) (by kernel_rfl) ?_ ?_
      · exact ⟨f6_0.drew, f6_1, f6_2⟩
      repeat (first | go_big_quiet_skip | (go_big_quiet_want; first | (refine quiet_ex ?_; apply Exists.intro; refine ⟨fun W hW => ?_, ?_⟩; (· (obtain ⟨f7_0, f7_1, f7_2⟩ := hW; go_simp; (first | done | with_reducible rfl | rfl))); simp only [Act.put, List.setIfInBounds_toArray, List.set_cons_zero, List.set_cons_succ]; go_big_quiet_on) | (refine quiet_ex ?_; apply Exists.intro; refine ⟨fun W hW => ?_, ?_⟩; (· (go_simp; first | (go_at_call 9; (with_reducible refine (HA2.out _ hW.1).mono ?_); rintro e w2 ⟨rfl, rfl⟩; exact ⟨rfl, hW⟩))); simp only [Act.put, List.setIfInBounds_toArray, List.set_cons_zero, List.set_cons_succ]; go_big_quiet_on)))
      refine wpQuiet_nil ?_
      rintro w' ⟨f7_0, f7_1, f7_2⟩
      clear f6_0 f6_1 f6_2
      obtain ⟨w6, hx9⟩ : ∃ x, x = w' := ⟨_, rfl⟩
      subst hx9
      have hc : 0 ≤ x2.tmod (G + 1) ∧ x2.tmod (G + 1) ≤ G := by rw [Int.tmod_eq_emod_of_nonneg h2.1]; omega
      generalize x2.tmod (G + 1) = gg at *
      clear HA2 V5 hcr hcs hgz hg1 h2
      obtain ⟨Y0, bt, eT, hbt, hY⟩ : ∃ Y0 : Int, ∃ bt : Bool, takeV G u1 gg 1 = .tuple #[.agg #[.int .i64 Y0, .int .i64 u1], .bool bt] ∧ decide (gg < G) = bt ∧ (bt = true → Y0 = G - gg) := by
        have tk := take_law hg hf hc
        by_cases hq : gg < G
        · rw [decide_eq_true hq] at tk; exact ⟨_, _, take_ok tk, decide_eq_true hq, fun _ => rfl⟩
        · rw [decide_eq_false hq] at tk; exact ⟨_, _, take_no tk, decide_eq_false hq, fun h => by cases h⟩
      have HT := Lib.hid (fun W => iTakeLeaven G u1 gg 1 W)
      rw [eT] at HT
      clear eT
      go_wp2_with fail
      refine (HT.out _).mono ?_
      rintro _ w8 ⟨rfl, hb8⟩
      have f8_0 : In w.heap.size w w8 := f7_0.step hb8
      have f8_1 : w8.cell? ⟨w1.heap.size, 0, none⟩ = some (.int .i64 G) := cell_in f7_1 ⟨hb8, hb8.size⟩
      have f8_2 : w8.cell? ⟨w1.heap.size, 1, none⟩ = some (.int .i64 u1) := cell_in f7_2 ⟨hb8, hb8.size⟩
      clear f7_0 f7_1 f7_2
      clear hb8
      clear HT
      have hl8 : w1.heap.size < w8.heap.size := cell_lt f8_1
      have hn8 : ¬ (w1.heap.size = w8.heap.size) := by omega
      cases bt
      · skip
        clear hY
        go_wp2_with fail
        clear hl8 hn8
        have kb9 : Blk (w8.alloc (.cells #[.int .i64 Y0, .int .i64 u1] 25)) w8.heap.size 25 #[.int .i64 Y0, .int .i64 u1] := Blk.new w8 _ _
        have hb9 : Below w8.heap.size w8 (w8.alloc (.cells #[.int .i64 Y0, .int .i64 u1] 25)) := (Below.refl _ w8).alloc (Nat.le_refl _) _
        have f9_0 : In w.heap.size w (w8.alloc (.cells #[.int .i64 Y0, .int .i64 u1] 25)) := f8_0.step hb9
        have f9_1 : (w8.alloc (.cells #[.int .i64 Y0, .int .i64 u1] 25)).cell? ⟨w1.heap.size, 0, none⟩ = some (.int .i64 G) := cell_in f8_1 ⟨hb9, hb9.size⟩
        have f9_2 : (w8.alloc (.cells #[.int .i64 Y0, .int .i64 u1] 25)).cell? ⟨w1.heap.size, 1, none⟩ = some (.int .i64 u1) := cell_in f8_2 ⟨hb9, hb9.size⟩
        have f9_3 : (w8.alloc (.cells #[.int .i64 Y0, .int .i64 u1] 25)).cell? ⟨w8.heap.size, 0, none⟩ = some (.int .i64 Y0) := kb9.cell 0
        have f9_4 : (w8.alloc (.cells #[.int .i64 Y0, .int .i64 u1] 25)).cell? ⟨w8.heap.size, 1, none⟩ = some (.int .i64 u1) := kb9.cell 1
        clear f8_0 f8_1 f8_2
        clear kb9 hb9
        refine (HA3.out _ f9_0).mono ?_
        rintro e w' ⟨rfl, rfl⟩
        clear HA3
        go_wp2_with fail
        refine (HA4.out _ f9_0).mono ?_
        rintro e w' ⟨rfl, rfl⟩
        clear HA4
        go_wp2_with fail
        refine (HA5.out _ f9_0).mono ?_
        rintro e w' ⟨rfl, rfl⟩
        clear HA5
        go_wp2_with fail
        have hbX : Below (w8.alloc (.cells #[.int .i64 Y0, .int .i64 u1] 25)).heap.size (w8.alloc (.cells #[.int .i64 Y0, .int .i64 u1] 25)) ((w8.alloc (.cells #[.int .i64 Y0, .int .i64 u1] 25)).alloc (.cells #[.int .i64 x3, .int .i64 x4, .int .i64 x5] 3)) := (Below.refl _ _).alloc (Nat.le_refl _) _
        have hrd : ReadsI ((w8.alloc (.cells #[.int .i64 Y0, .int .i64 u1] 25)).alloc (.cells #[.int .i64 x3, .int .i64 x4, .int .i64 x5] 3)) (some ⟨w8.heap.size + 1, 0, none⟩) 3 [x3, x4, x5] := reads_at (w8.alloc (.cells #[.int .i64 Y0, .int .i64 u1] 25)) _ _ [x3, x4, x5] (w8.heap.size + 1) (by simp) rfl
        have f10_0 : In w.heap.size w ((w8.alloc (.cells #[.int .i64 Y0, .int .i64 u1] 25)).alloc (.cells #[.int .i64 x3, .int .i64 x4, .int .i64 x5] 3)) := f9_0.step hbX
        have f10_1 : ((w8.alloc (.cells #[.int .i64 Y0, .int .i64 u1] 25)).alloc (.cells #[.int .i64 x3, .int .i64 x4, .int .i64 x5] 3)).cell? ⟨w1.heap.size, 0, none⟩ = some (.int .i64 G) := cell_in f9_1 ⟨hbX, hbX.size⟩
        have f10_2 : ((w8.alloc (.cells #[.int .i64 Y0, .int .i64 u1] 25)).alloc (.cells #[.int .i64 x3, .int .i64 x4, .int .i64 x5] 3)).cell? ⟨w1.heap.size, 1, none⟩ = some (.int .i64 u1) := cell_in f9_2 ⟨hbX, hbX.size⟩
        have f10_3 : ReadsI ((w8.alloc (.cells #[.int .i64 Y0, .int .i64 u1] 25)).alloc (.cells #[.int .i64 x3, .int .i64 x4, .int .i64 x5] 3)) (some ⟨w8.heap.size + 1, 0, none⟩) 3 [x3, x4, x5] := hrd
        clear f9_0 f9_1 f9_2 f9_3 f9_4
        clear hbX hrd
        obtain ⟨K, eK, hK, v1, v0⟩ := keep_law h3 h4 h5 ht
        have HK := iKeepForDays (some ⟨w8.heap.size + 1, 0, none⟩) 3 3 [x3, x4, x5] t ((w8.alloc (.cells #[.int .i64 Y0, .int .i64 u1] 25)).alloc (.cells #[.int .i64 x3, .int .i64 x4, .int .i64 x5] 3)) (by unfold maxLen; omega) f10_3
        rw [eK] at HK
        clear eK
        refine (HK).mono ?_
        rintro _ w11 ⟨rfl, hb11⟩
        have f11_0 : In w.heap.size w w11 := f10_0.step hb11
        have f11_1 : w11.cell? ⟨w1.heap.size, 0, none⟩ = some (.int .i64 G) := cell_in f10_1 ⟨hb11, hb11.size⟩
        have f11_2 : w11.cell? ⟨w1.heap.size, 1, none⟩ = some (.int .i64 u1) := cell_in f10_2 ⟨hb11, hb11.size⟩
        have f11_3 : ReadsI w11 (some ⟨w8.heap.size + 1, 0, none⟩) 3 [x3, x4, x5] := f10_3.step hb11
        clear f10_0 f10_1 f10_2 f10_3
        clear hb11
        clear HK
        have d1 : decide (K < 1) = false := decide_eq_false (by omega)
        have hK1 : (1 : Int) ≤ K := hK.1
        go_wp2
        go_loopw [16] (fun i wr => ∃ j : Nat, j ≤ 2 ∧ i = .int .i64 j ∧ In w11.heap.size w11 wr) (fun i _ => 2 - (intOf i).toNat)
        case atStart => exact ⟨0, by omega, rfl, In.refl _⟩
        case round =>
          obtain ⟨j, hj, rfl, i1⟩ := hrel
          obtain ⟨wo, hx9⟩ : ∃ x, x = wr := ⟨_, rfl⟩
          subst hx9
          by_cases hj2 : j ≤ 1
          · skip
            obtain ⟨z9, hz9⟩ : ∃ z9, K - (j : Int) = z9 := ⟨_, rfl⟩
            have hT : valF [x3, x4, x5] t 3 3 z9 = 1 - (j : Int) := by
              rcases (show j = 0 ∨ j = 1 by omega) with rfl | rfl
              · rw [← hz9, show K - ((0 : Nat) : Int) = K by omega, v1]; omega
              · rw [← hz9, show K - ((1 : Nat) : Int) = K - 1 by omega, v0]; omega
            have hzz : 0 ≤ z9 ∧ z9 ≤ 256 := by omega
            have V1 : IntKind.i64.wrap (K - (j : Int)) = z9 := by rw [hz9]; exact IntWalk.i64_in _ (by omega)
            have d2 : decide ((j : Int) ≤ 1) = true := decide_eq_true (by omega)
            have hrd : ReadsI wo (some ⟨w8.heap.size + 1, 0, none⟩) 3 [x3, x4, x5] := f11_3.step i1.below
            clear hz9
            go_wp2
            clear V1 d2
            have q0 : Blk (wo.alloc (.cells #[.int .i64 z9, .int .i64 0] 25)) wo.heap.size 25 #[.int .i64 z9, .int .i64 0] := Blk.new wo _ _
            have i0 : In wo.heap.size wo (wo.alloc (.cells #[.int .i64 z9, .int .i64 0] 25)) := (In.refl wo).alloc _
            go_loopw [18, 19] (fun l i wi => ∃ (k : Nat) (b : Bool) (g' f' : Int), k ≤ 3 ∧ i = .int .i64 k ∧ l = .bool b ∧ In wo.heap.size wo wi ∧ Blk wi wo.heap.size 25 #[.int .i64 g', .int .i64 f'] ∧ (b = true → 0 ≤ g' ∧ g' ≤ bnd (3 - k) ∧ f' = (k : Int) ∧ valF [x3, x4, x5] t 3 3 z9 = valF [x3, x4, x5] t 3 (3 - k) g') ∧ (b = false → valF [x3, x4, x5] t 3 3 z9 = 0)) (fun _ i _ => 3 - (intOf i).toNat)
            case atStart => exact ⟨0, true, z9, 0, by omega, rfl, rfl, i0, q0, fun _ => ⟨hzz.1, (by have : bnd 3 = 800 := (by decide); show z9 ≤ bnd 3; omega), rfl, rfl⟩, fun h => by cases h⟩
            case round =>
              obtain ⟨k, lb, g', f', hk, rfl, rfl, i2, k2, hbt, hbf⟩ := hrel
              clear q0 i0
              have c0 : wr.cell? ⟨wo.heap.size, 0, none⟩ = some (.int .i64 g') := k2.cell 0
              have c1 : wr.cell? ⟨wo.heap.size, 1, none⟩ = some (.int .i64 f') := k2.cell 1
              by_cases hkn : k < 3
              · skip
                have hkI : (k : Int) < 3 := by omega
                have d3 : decide ((k : Int) < 3) = true := decide_eq_true hkI
                cases lb
                · skip
                  have hz := hbf rfl
                  rw [hz] at hT
                  have hj9 : j = 1 := by omega
                  have d4 : decide ((j : Int) = 0) = false := decide_eq_false (by omega)
                  have d5 : ¬ ((j : Int) = 0) := by omega
                  have d6 : ((j : Int) == 0) = false := by simpa using d5
                  have V2 : IntKind.i64.wrap ((j : Int) + 1) = (j : Int) + 1 := by rw [IntWalk.i64_in _ (by omega)]
                  clear hbt hbf hT hz hj9
                  go_wp2
                  go_roundw
                  case rel => exact ⟨j + 1, by omega, by go_num, In.trans i1 i2⟩
                  case measure => simp [intOf]; omega
                · skip
                  obtain ⟨g0, gb, rfl, hv⟩ := hbt rfl
                  clear hbt hbf
                  have hd : 0 ≤ [x3, x4, x5].getD k 0 ∧ [x3, x4, x5].getD k 0 ≤ 255 := by
                    rcases (show k = 0 ∨ k = 1 ∨ k = 2 by omega) with rfl | rfl | rfl
                    · exact h3
                    · exact h4
                    · exact h5
                  obtain ⟨g2, f2, g3, f3, c, e, eF, eT, hce, hce0⟩ := day_all [x3, x4, x5] hkn ht hd g0 gb
                  obtain ⟨_, ⟨⟩, ca⟩ := hrd.2 k hkn
                  generalize [x3, x4, x5].getD k 0 = d at *
                  have CA := Lib.hid ca
                  have HF := Lib.hid (fun W => sFeed g' k t W)
                  rw [eF] at HF
                  have HT := Lib.hid (fun W => sTakeLeaven g2 f2 d 1 W)
                  rw [eT] at HT
                  clear ca eF eT
                  have HC := Lib.hid hce
                  have HC0 := Lib.hid hce0
                  clear hce hce0
                  have HTv := Lib.hid hT
                  have HV := Lib.hid hv
                  clear hT hv
                  go_wp2_with fail
                  refine (HF.out _).mono ?_
                  rintro _ w11 ⟨rfl, hb11⟩
                  clear HF
                  have k3 := Blk.step k2 hb11
                  have i3 := i2.step hb11
                  clear hb11 k2 i2 c0 c1
                  go_wp2
                  have k4 := k3.alloc (Obj.cells #[.int .i64 g2, .int .i64 f2] 25)
                  have i4 := i3.alloc (Obj.cells #[.int .i64 g2, .int .i64 f2] 25)
                  have kF : Blk (w11.alloc (.cells #[.int .i64 g2, .int .i64 f2] 25)) w11.heap.size 25 #[.int .i64 g2, .int .i64 f2] := Blk.new w11 _ _
                  clear k3 i3
                  generalize World.alloc w11 (Obj.cells #[.int .i64 g2, .int .i64 f2] 25) = W2 at k4 i4 kF ⊢
                  generalize w11.heap.size = n11 at *
                  have m0 : W2.cell? ⟨n11, 0, none⟩ = some (.int .i64 g2) := kF.cell 0
                  have m1 : W2.cell? ⟨n11, 1, none⟩ = some (.int .i64 f2) := kF.cell 1
                  have m2 := cell_in CA.out i4
                  have m3 : W2.cell? ⟨w8.heap.size + 1, k, none⟩ = some (.int .i64 d) := by
                    have h := m2
                    rcases (show k = 0 ∨ k ≠ 0 by omega) with hk0 | hk0 <;> (simp [Addr.add, hk0] at h ⊢; exact h)
                  have ml0 := cell_lt m0
                  have ml3 := cell_lt m3
                  have mlz := k4.lt
                  simp only [] at ml0 ml3
                  have mn0 : ¬ (n11 = W2.heap.size) := by omega
                  have mn3 : ¬ (w8.heap.size + 1 = W2.heap.size) := by omega
                  have mnz : ¬ (wo.heap.size = W2.heap.size) := by omega
                  have mnz2 : ¬ (W2.heap.size = wo.heap.size) := by omega
                  have hBz : wo.heap.size ≤ W2.heap.size := i4.size
                  have hkz : (0 : Int) ≤ (k : Int) := by omega
                  clear kF
                  go_region_with (go_at_call 15; (refine (HT.out _).mono ?_; rintro _ w3 ⟨rfl, hb3⟩; first | (have hb4 : Below W2.drew.heap.size W2.drew w3 := hb3; obtain ⟨j3, b3, e0, e1, z0, z1, hw3⟩ := box2 i4 k4 hb4) | (obtain ⟨⟨j3, b3, e0, e1, z0, z1, hw3⟩, y0, y1, y2, y3, y4⟩ := box3 i4 k4 hb3)))
                  · clear HT
                    cases c
                    · skip
                      go_wp2
                      go_roundw
                      case rel => first | exact ⟨k + 1, false, g3, f3, by omega, by go_num, rfl, ((j3.set_ (Nat.le_refl _) _).set_ (Nat.le_refl _) _).alloc _, ((b3.set_ 0 _).set_ 1 _).alloc _, (fun h => by cases h), (fun _ => HV.out.trans (HC0.out rfl))⟩ | exact ⟨k + 1, false, g3, f3, by omega, by go_num, rfl, (((j3.set_ hBz _).set_ hBz _).set_ (Nat.le_refl _) _).set_ (Nat.le_refl _) _, (((b3.far mnz _).far mnz _).set_ 0 _).set_ 1 _, (fun h => by cases h), (fun _ => HV.out.trans (HC0.out rfl))⟩
                      case measure => simp [intOf]; omega
                    · skip
                      go_wp2
                      go_roundw
                      case rel => first | exact ⟨k + 1, e, g3, f3, by omega, by go_num, rfl, ((j3.set_ (Nat.le_refl _) _).set_ (Nat.le_refl _) _).alloc _, ((b3.set_ 0 _).set_ 1 _).alloc _, (fun h => by obtain ⟨a1, a2, a3, a4⟩ := HC.out (by rw [h]; rfl); exact ⟨a1, a2, by omega, HV.out.trans a4⟩), (fun h => HV.out.trans (HC0.out (by rw [h]; rfl)))⟩ | exact ⟨k + 1, e, g3, f3, by omega, by go_num, rfl, (((j3.set_ hBz _).set_ hBz _).set_ (Nat.le_refl _) _).set_ (Nat.le_refl _) _, (((b3.far mnz _).far mnz _).set_ 0 _).set_ 1 _, (fun h => by obtain ⟨a1, a2, a3, a4⟩ := HC.out (by rw [h]; rfl); exact ⟨a1, a2, by omega, HV.out.trans a4⟩), (fun h => HV.out.trans (HC0.out (by rw [h]; rfl)))⟩
                      case measure => simp [intOf]; omega
                  · clear HT
                    cases c
                    · skip
                      go_wp2
                      go_roundw
                      case rel => first | exact ⟨k + 1, false, g3, f3, by omega, by go_num, rfl, ((j3.set_ (Nat.le_refl _) _).set_ (Nat.le_refl _) _).alloc _, ((b3.set_ 0 _).set_ 1 _).alloc _, (fun h => by cases h), (fun _ => HV.out.trans (HC0.out rfl))⟩ | exact ⟨k + 1, false, g3, f3, by omega, by go_num, rfl, (((j3.set_ hBz _).set_ hBz _).set_ (Nat.le_refl _) _).set_ (Nat.le_refl _) _, (((b3.far mnz _).far mnz _).set_ 0 _).set_ 1 _, (fun h => by cases h), (fun _ => HV.out.trans (HC0.out rfl))⟩
                      case measure => simp [intOf]; omega
                    · skip
                      go_wp2
                      go_roundw
                      case rel => first | exact ⟨k + 1, e, g3, f3, by omega, by go_num, rfl, ((j3.set_ (Nat.le_refl _) _).set_ (Nat.le_refl _) _).alloc _, ((b3.set_ 0 _).set_ 1 _).alloc _, (fun h => by obtain ⟨a1, a2, a3, a4⟩ := HC.out (by rw [h]; rfl); exact ⟨a1, a2, by omega, HV.out.trans a4⟩), (fun h => HV.out.trans (HC0.out (by rw [h]; rfl)))⟩ | exact ⟨k + 1, e, g3, f3, by omega, by go_num, rfl, (((j3.set_ hBz _).set_ hBz _).set_ (Nat.le_refl _) _).set_ (Nat.le_refl _) _, (((b3.far mnz _).far mnz _).set_ 0 _).set_ 1 _, (fun h => by obtain ⟨a1, a2, a3, a4⟩ := HC.out (by rw [h]; rfl); exact ⟨a1, a2, by omega, HV.out.trans a4⟩), (fun h => HV.out.trans (HC0.out (by rw [h]; rfl)))⟩
                      case measure => simp [intOf]; omega
                  · clear HT
                    cases c
                    · skip
                      go_wp2
                      go_roundw
                      case rel => first | exact ⟨k + 1, false, g3, f3, by omega, by go_num, rfl, ((j3.set_ (Nat.le_refl _) _).set_ (Nat.le_refl _) _).alloc _, ((b3.set_ 0 _).set_ 1 _).alloc _, (fun h => by cases h), (fun _ => HV.out.trans (HC0.out rfl))⟩ | exact ⟨k + 1, false, g3, f3, by omega, by go_num, rfl, (((j3.set_ hBz _).set_ hBz _).set_ (Nat.le_refl _) _).set_ (Nat.le_refl _) _, (((b3.far mnz _).far mnz _).set_ 0 _).set_ 1 _, (fun h => by cases h), (fun _ => HV.out.trans (HC0.out rfl))⟩
                      case measure => simp [intOf]; omega
                    · skip
                      go_wp2
                      go_roundw
                      case rel => first | exact ⟨k + 1, e, g3, f3, by omega, by go_num, rfl, ((j3.set_ (Nat.le_refl _) _).set_ (Nat.le_refl _) _).alloc _, ((b3.set_ 0 _).set_ 1 _).alloc _, (fun h => by obtain ⟨a1, a2, a3, a4⟩ := HC.out (by rw [h]; rfl); exact ⟨a1, a2, by omega, HV.out.trans a4⟩), (fun h => HV.out.trans (HC0.out (by rw [h]; rfl)))⟩ | exact ⟨k + 1, e, g3, f3, by omega, by go_num, rfl, (((j3.set_ hBz _).set_ hBz _).set_ (Nat.le_refl _) _).set_ (Nat.le_refl _) _, (((b3.far mnz _).far mnz _).set_ 0 _).set_ 1 _, (fun h => by obtain ⟨a1, a2, a3, a4⟩ := HC.out (by rw [h]; rfl); exact ⟨a1, a2, by omega, HV.out.trans a4⟩), (fun h => HV.out.trans (HC0.out (by rw [h]; rfl)))⟩
                      case measure => simp [intOf]; omega
                  · clear HT
                    cases c
                    · skip
                      go_wp2
                      go_roundw
                      case rel => first | exact ⟨k + 1, false, g3, f3, by omega, by go_num, rfl, ((j3.set_ (Nat.le_refl _) _).set_ (Nat.le_refl _) _).alloc _, ((b3.set_ 0 _).set_ 1 _).alloc _, (fun h => by cases h), (fun _ => HV.out.trans (HC0.out rfl))⟩ | exact ⟨k + 1, false, g3, f3, by omega, by go_num, rfl, (((j3.set_ hBz _).set_ hBz _).set_ (Nat.le_refl _) _).set_ (Nat.le_refl _) _, (((b3.far mnz _).far mnz _).set_ 0 _).set_ 1 _, (fun h => by cases h), (fun _ => HV.out.trans (HC0.out rfl))⟩
                      case measure => simp [intOf]; omega
                    · skip
                      go_wp2
                      go_roundw
                      case rel => first | exact ⟨k + 1, e, g3, f3, by omega, by go_num, rfl, ((j3.set_ (Nat.le_refl _) _).set_ (Nat.le_refl _) _).alloc _, ((b3.set_ 0 _).set_ 1 _).alloc _, (fun h => by obtain ⟨a1, a2, a3, a4⟩ := HC.out (by rw [h]; rfl); exact ⟨a1, a2, by omega, HV.out.trans a4⟩), (fun h => HV.out.trans (HC0.out (by rw [h]; rfl)))⟩ | exact ⟨k + 1, e, g3, f3, by omega, by go_num, rfl, (((j3.set_ hBz _).set_ hBz _).set_ (Nat.le_refl _) _).set_ (Nat.le_refl _) _, (((b3.far mnz _).far mnz _).set_ 0 _).set_ 1 _, (fun h => by obtain ⟨a1, a2, a3, a4⟩ := HC.out (by rw [h]; rfl); exact ⟨a1, a2, by omega, HV.out.trans a4⟩), (fun h => HV.out.trans (HC0.out (by rw [h]; rfl)))⟩
                      case measure => simp [intOf]; omega
                  · clear HT
                    cases c
                    · skip
                      go_wp2
                      go_roundw
                      case rel => first | exact ⟨k + 1, false, g3, f3, by omega, by go_num, rfl, ((j3.set_ (Nat.le_refl _) _).set_ (Nat.le_refl _) _).alloc _, ((b3.set_ 0 _).set_ 1 _).alloc _, (fun h => by cases h), (fun _ => HV.out.trans (HC0.out rfl))⟩ | exact ⟨k + 1, false, g3, f3, by omega, by go_num, rfl, (((j3.set_ hBz _).set_ hBz _).set_ (Nat.le_refl _) _).set_ (Nat.le_refl _) _, (((b3.far mnz _).far mnz _).set_ 0 _).set_ 1 _, (fun h => by cases h), (fun _ => HV.out.trans (HC0.out rfl))⟩
                      case measure => simp [intOf]; omega
                    · skip
                      go_wp2
                      go_roundw
                      case rel => first | exact ⟨k + 1, e, g3, f3, by omega, by go_num, rfl, ((j3.set_ (Nat.le_refl _) _).set_ (Nat.le_refl _) _).alloc _, ((b3.set_ 0 _).set_ 1 _).alloc _, (fun h => by obtain ⟨a1, a2, a3, a4⟩ := HC.out (by rw [h]; rfl); exact ⟨a1, a2, by omega, HV.out.trans a4⟩), (fun h => HV.out.trans (HC0.out (by rw [h]; rfl)))⟩ | exact ⟨k + 1, e, g3, f3, by omega, by go_num, rfl, (((j3.set_ hBz _).set_ hBz _).set_ (Nat.le_refl _) _).set_ (Nat.le_refl _) _, (((b3.far mnz _).far mnz _).set_ 0 _).set_ 1 _, (fun h => by obtain ⟨a1, a2, a3, a4⟩ := HC.out (by rw [h]; rfl); exact ⟨a1, a2, by omega, HV.out.trans a4⟩), (fun h => HV.out.trans (HC0.out (by rw [h]; rfl)))⟩
                      case measure => simp [intOf]; omega
                  · clear HT
                    cases c
                    · skip
                      go_wp2
                      go_roundw
                      case rel => first | exact ⟨k + 1, false, g3, f3, by omega, by go_num, rfl, ((j3.set_ (Nat.le_refl _) _).set_ (Nat.le_refl _) _).alloc _, ((b3.set_ 0 _).set_ 1 _).alloc _, (fun h => by cases h), (fun _ => HV.out.trans (HC0.out rfl))⟩ | exact ⟨k + 1, false, g3, f3, by omega, by go_num, rfl, (((j3.set_ hBz _).set_ hBz _).set_ (Nat.le_refl _) _).set_ (Nat.le_refl _) _, (((b3.far mnz _).far mnz _).set_ 0 _).set_ 1 _, (fun h => by cases h), (fun _ => HV.out.trans (HC0.out rfl))⟩
                      case measure => simp [intOf]; omega
                    · skip
                      go_wp2
                      go_roundw
                      case rel => first | exact ⟨k + 1, e, g3, f3, by omega, by go_num, rfl, ((j3.set_ (Nat.le_refl _) _).set_ (Nat.le_refl _) _).alloc _, ((b3.set_ 0 _).set_ 1 _).alloc _, (fun h => by obtain ⟨a1, a2, a3, a4⟩ := HC.out (by rw [h]; rfl); exact ⟨a1, a2, by omega, HV.out.trans a4⟩), (fun h => HV.out.trans (HC0.out (by rw [h]; rfl)))⟩ | exact ⟨k + 1, e, g3, f3, by omega, by go_num, rfl, (((j3.set_ hBz _).set_ hBz _).set_ (Nat.le_refl _) _).set_ (Nat.le_refl _) _, (((b3.far mnz _).far mnz _).set_ 0 _).set_ 1 _, (fun h => by obtain ⟨a1, a2, a3, a4⟩ := HC.out (by rw [h]; rfl); exact ⟨a1, a2, by omega, HV.out.trans a4⟩), (fun h => HV.out.trans (HC0.out (by rw [h]; rfl)))⟩
                      case measure => simp [intOf]; omega
                  · clear HT
                    cases c
                    · skip
                      go_wp2
                      go_roundw
                      case rel => first | exact ⟨k + 1, false, g3, f3, by omega, by go_num, rfl, ((j3.set_ (Nat.le_refl _) _).set_ (Nat.le_refl _) _).alloc _, ((b3.set_ 0 _).set_ 1 _).alloc _, (fun h => by cases h), (fun _ => HV.out.trans (HC0.out rfl))⟩ | exact ⟨k + 1, false, g3, f3, by omega, by go_num, rfl, (((j3.set_ hBz _).set_ hBz _).set_ (Nat.le_refl _) _).set_ (Nat.le_refl _) _, (((b3.far mnz _).far mnz _).set_ 0 _).set_ 1 _, (fun h => by cases h), (fun _ => HV.out.trans (HC0.out rfl))⟩
                      case measure => simp [intOf]; omega
                    · skip
                      go_wp2
                      go_roundw
                      case rel => first | exact ⟨k + 1, e, g3, f3, by omega, by go_num, rfl, ((j3.set_ (Nat.le_refl _) _).set_ (Nat.le_refl _) _).alloc _, ((b3.set_ 0 _).set_ 1 _).alloc _, (fun h => by obtain ⟨a1, a2, a3, a4⟩ := HC.out (by rw [h]; rfl); exact ⟨a1, a2, by omega, HV.out.trans a4⟩), (fun h => HV.out.trans (HC0.out (by rw [h]; rfl)))⟩ | exact ⟨k + 1, e, g3, f3, by omega, by go_num, rfl, (((j3.set_ hBz _).set_ hBz _).set_ (Nat.le_refl _) _).set_ (Nat.le_refl _) _, (((b3.far mnz _).far mnz _).set_ 0 _).set_ 1 _, (fun h => by obtain ⟨a1, a2, a3, a4⟩ := HC.out (by rw [h]; rfl); exact ⟨a1, a2, by omega, HV.out.trans a4⟩), (fun h => HV.out.trans (HC0.out (by rw [h]; rfl)))⟩
                      case measure => simp [intOf]; omega
                  · clear HT
                    cases c
                    · skip
                      go_wp2
                      go_roundw
                      case rel => first | exact ⟨k + 1, false, g3, f3, by omega, by go_num, rfl, ((j3.set_ (Nat.le_refl _) _).set_ (Nat.le_refl _) _).alloc _, ((b3.set_ 0 _).set_ 1 _).alloc _, (fun h => by cases h), (fun _ => HV.out.trans (HC0.out rfl))⟩ | exact ⟨k + 1, false, g3, f3, by omega, by go_num, rfl, (((j3.set_ hBz _).set_ hBz _).set_ (Nat.le_refl _) _).set_ (Nat.le_refl _) _, (((b3.far mnz _).far mnz _).set_ 0 _).set_ 1 _, (fun h => by cases h), (fun _ => HV.out.trans (HC0.out rfl))⟩
                      case measure => simp [intOf]; omega
                    · skip
                      go_wp2
                      go_roundw
                      case rel => first | exact ⟨k + 1, e, g3, f3, by omega, by go_num, rfl, ((j3.set_ (Nat.le_refl _) _).set_ (Nat.le_refl _) _).alloc _, ((b3.set_ 0 _).set_ 1 _).alloc _, (fun h => by obtain ⟨a1, a2, a3, a4⟩ := HC.out (by rw [h]; rfl); exact ⟨a1, a2, by omega, HV.out.trans a4⟩), (fun h => HV.out.trans (HC0.out (by rw [h]; rfl)))⟩ | exact ⟨k + 1, e, g3, f3, by omega, by go_num, rfl, (((j3.set_ hBz _).set_ hBz _).set_ (Nat.le_refl _) _).set_ (Nat.le_refl _) _, (((b3.far mnz _).far mnz _).set_ 0 _).set_ 1 _, (fun h => by obtain ⟨a1, a2, a3, a4⟩ := HC.out (by rw [h]; rfl); exact ⟨a1, a2, by omega, HV.out.trans a4⟩), (fun h => HV.out.trans (HC0.out (by rw [h]; rfl)))⟩
                      case measure => simp [intOf]; omega
              · skip
                obtain rfl : k = 3 := by omega
                have d3 : decide (((3 : Nat) : Int) < 3) = false := by decide
                cases lb
                · skip
                  have hz := hbf rfl
                  rw [hz] at hT
                  have hj9 : j = 1 := by omega
                  have d4 : decide ((j : Int) = 0) = false := decide_eq_false (by omega)
                  have d5 : ¬ ((j : Int) = 0) := by omega
                  have d6 : ((j : Int) == 0) = false := by simpa using d5
                  have V2 : IntKind.i64.wrap ((j : Int) + 1) = (j : Int) + 1 := by rw [IntWalk.i64_in _ (by omega)]
                  clear hbt hbf hT hz hj9
                  go_wp2
                  go_roundw
                  case rel => exact ⟨j + 1, by omega, by go_num, In.trans i1 i2⟩
                  case measure => simp [intOf]; omega
                · skip
                  obtain ⟨g0, gb, rfl, hv⟩ := hbt rfl
                  rw [hv, show valF [x3, x4, x5] t 3 (3 - 3) g' = 1 from rfl] at hT
                  have hj9 : (j : Int) = 0 := by omega
                  have d4 : decide ((j : Int) = 0) = true := decide_eq_true hj9
                  have d6 : ((j : Int) == 0) = true := by simpa using hj9
                  have V2 : IntKind.i64.wrap ((j : Int) + 1) = (j : Int) + 1 := by rw [IntWalk.i64_in _ (by omega)]
                  clear hbt hbf hT hv
                  go_wp2
                  go_roundw
                  case rel => exact ⟨j + 1, by omega, by go_num, In.trans i1 i2⟩
                  case measure => simp [intOf]; omega
          · skip
            obtain rfl : j = 2 := by omega
            have d4 : decide (((2 : Nat) : Int) ≤ 1) = false := by decide
            have f12_0 : In w.heap.size w wo := f11_0.step i1.below
            have f12_1 : wo.cell? ⟨w1.heap.size, 0, none⟩ = some (.int .i64 G) := cell_in f11_1 ⟨i1.below, i1.below.size⟩
            have f12_2 : wo.cell? ⟨w1.heap.size, 1, none⟩ = some (.int .i64 u1) := cell_in f11_2 ⟨i1.below, i1.below.size⟩
            clear f11_0 f11_1 f11_2
            have HLV := Lib.hid (fun W => iLeavenOk G u1 W)
            rw [show leavB G u1 = true by simp [leavB, inB]; omega] at HLV
            have HKN := Lib.hid (fun W => iKeepForDays none 0 0 [] 2 W (by unfold maxLen; omega) ⟨rfl, fun i hi => absurd hi (Nat.not_lt_zero i)⟩)
            rw [show keepV 0 [] 2 = 0 by decide] at HKN
            clear i1
            go_wp2_with fail
            refine (HLV.out _).mono ?_
            rintro _ w13 ⟨rfl, hb13⟩
            have f13_0 : In w.heap.size w w13 := f12_0.step hb13
            have f13_1 : w13.cell? ⟨w1.heap.size, 0, none⟩ = some (.int .i64 G) := cell_in f12_1 ⟨hb13, hb13.size⟩
            have f13_2 : w13.cell? ⟨w1.heap.size, 1, none⟩ = some (.int .i64 u1) := cell_in f12_2 ⟨hb13, hb13.size⟩
            clear f12_0 f12_1 f12_2
            clear hb13
            clear HLV
            skip
            go_wp2_with fail
            refine (HKN.out _).mono ?_
            rintro _ w14 ⟨rfl, hb14⟩
            have f14_0 : In w.heap.size w w14 := f13_0.step hb14
            have f14_1 : w14.cell? ⟨w1.heap.size, 0, none⟩ = some (.int .i64 G) := cell_in f13_1 ⟨hb14, hb14.size⟩
            have f14_2 : w14.cell? ⟨w1.heap.size, 1, none⟩ = some (.int .i64 u1) := cell_in f13_2 ⟨hb14, hb14.size⟩
            clear f13_0 f13_1 f13_2
            clear hb14
            clear HKN
            go_wp2
            go_ret
            exact ⟨ret_bool rfl, f14_0.below⟩
      · skip
        have eY := hY rfl
        clear hY
        subst eY
        have V1 : IntKind.i64.wrap (G - gg) = G - gg := by rw [IntWalk.i64_in _ (by omega)]
        go_wp2_with fail
        clear hl8 hn8 V1
        have kb9 : Blk (w8.alloc (.cells #[.int .i64 (G - gg), .int .i64 u1] 25)) w8.heap.size 25 #[.int .i64 (G - gg), .int .i64 u1] := Blk.new w8 _ _
        have hb9 : Below w8.heap.size w8 (w8.alloc (.cells #[.int .i64 (G - gg), .int .i64 u1] 25)) := (Below.refl _ w8).alloc (Nat.le_refl _) _
        have f9_0 : In w.heap.size w (w8.alloc (.cells #[.int .i64 (G - gg), .int .i64 u1] 25)) := f8_0.step hb9
        have f9_1 : (w8.alloc (.cells #[.int .i64 (G - gg), .int .i64 u1] 25)).cell? ⟨w1.heap.size, 0, none⟩ = some (.int .i64 G) := cell_in f8_1 ⟨hb9, hb9.size⟩
        have f9_2 : (w8.alloc (.cells #[.int .i64 (G - gg), .int .i64 u1] 25)).cell? ⟨w1.heap.size, 1, none⟩ = some (.int .i64 u1) := cell_in f8_2 ⟨hb9, hb9.size⟩
        have f9_3 : (w8.alloc (.cells #[.int .i64 (G - gg), .int .i64 u1] 25)).cell? ⟨w8.heap.size, 0, none⟩ = some (.int .i64 (G - gg)) := kb9.cell 0
        have f9_4 : (w8.alloc (.cells #[.int .i64 (G - gg), .int .i64 u1] 25)).cell? ⟨w8.heap.size, 1, none⟩ = some (.int .i64 u1) := kb9.cell 1
        clear f8_0 f8_1 f8_2
        clear kb9 hb9
        refine (HA3.out _ f9_0).mono ?_
        rintro e w' ⟨rfl, rfl⟩
        clear HA3
        go_wp2_with fail
        refine (HA4.out _ f9_0).mono ?_
        rintro e w' ⟨rfl, rfl⟩
        clear HA4
        go_wp2_with fail
        refine (HA5.out _ f9_0).mono ?_
        rintro e w' ⟨rfl, rfl⟩
        clear HA5
        go_wp2_with fail
        have hbX : Below (w8.alloc (.cells #[.int .i64 (G - gg), .int .i64 u1] 25)).heap.size (w8.alloc (.cells #[.int .i64 (G - gg), .int .i64 u1] 25)) ((w8.alloc (.cells #[.int .i64 (G - gg), .int .i64 u1] 25)).alloc (.cells #[.int .i64 x3, .int .i64 x4, .int .i64 x5] 3)) := (Below.refl _ _).alloc (Nat.le_refl _) _
        have hrd : ReadsI ((w8.alloc (.cells #[.int .i64 (G - gg), .int .i64 u1] 25)).alloc (.cells #[.int .i64 x3, .int .i64 x4, .int .i64 x5] 3)) (some ⟨w8.heap.size + 1, 0, none⟩) 3 [x3, x4, x5] := reads_at (w8.alloc (.cells #[.int .i64 (G - gg), .int .i64 u1] 25)) _ _ [x3, x4, x5] (w8.heap.size + 1) (by simp) rfl
        have f10_0 : In w.heap.size w ((w8.alloc (.cells #[.int .i64 (G - gg), .int .i64 u1] 25)).alloc (.cells #[.int .i64 x3, .int .i64 x4, .int .i64 x5] 3)) := f9_0.step hbX
        have f10_1 : ((w8.alloc (.cells #[.int .i64 (G - gg), .int .i64 u1] 25)).alloc (.cells #[.int .i64 x3, .int .i64 x4, .int .i64 x5] 3)).cell? ⟨w1.heap.size, 0, none⟩ = some (.int .i64 G) := cell_in f9_1 ⟨hbX, hbX.size⟩
        have f10_2 : ((w8.alloc (.cells #[.int .i64 (G - gg), .int .i64 u1] 25)).alloc (.cells #[.int .i64 x3, .int .i64 x4, .int .i64 x5] 3)).cell? ⟨w1.heap.size, 1, none⟩ = some (.int .i64 u1) := cell_in f9_2 ⟨hbX, hbX.size⟩
        have f10_3 : ReadsI ((w8.alloc (.cells #[.int .i64 (G - gg), .int .i64 u1] 25)).alloc (.cells #[.int .i64 x3, .int .i64 x4, .int .i64 x5] 3)) (some ⟨w8.heap.size + 1, 0, none⟩) 3 [x3, x4, x5] := hrd
        clear f9_0 f9_1 f9_2 f9_3 f9_4
        clear hbX hrd
        obtain ⟨K, eK, hK, v1, v0⟩ := keep_law h3 h4 h5 ht
        have HK := iKeepForDays (some ⟨w8.heap.size + 1, 0, none⟩) 3 3 [x3, x4, x5] t ((w8.alloc (.cells #[.int .i64 (G - gg), .int .i64 u1] 25)).alloc (.cells #[.int .i64 x3, .int .i64 x4, .int .i64 x5] 3)) (by unfold maxLen; omega) f10_3
        rw [eK] at HK
        clear eK
        refine (HK).mono ?_
        rintro _ w11 ⟨rfl, hb11⟩
        have f11_0 : In w.heap.size w w11 := f10_0.step hb11
        have f11_1 : w11.cell? ⟨w1.heap.size, 0, none⟩ = some (.int .i64 G) := cell_in f10_1 ⟨hb11, hb11.size⟩
        have f11_2 : w11.cell? ⟨w1.heap.size, 1, none⟩ = some (.int .i64 u1) := cell_in f10_2 ⟨hb11, hb11.size⟩
        have f11_3 : ReadsI w11 (some ⟨w8.heap.size + 1, 0, none⟩) 3 [x3, x4, x5] := f10_3.step hb11
        clear f10_0 f10_1 f10_2 f10_3
        clear hb11
        clear HK
        have d1 : decide (K < 1) = false := decide_eq_false (by omega)
        have hK1 : (1 : Int) ≤ K := hK.1
        go_wp2
        go_loopw [16] (fun i wr => ∃ j : Nat, j ≤ 2 ∧ i = .int .i64 j ∧ In w11.heap.size w11 wr) (fun i _ => 2 - (intOf i).toNat)
        case atStart => exact ⟨0, by omega, rfl, In.refl _⟩
        case round =>
          obtain ⟨j, hj, rfl, i1⟩ := hrel
          obtain ⟨wo, hx9⟩ : ∃ x, x = wr := ⟨_, rfl⟩
          subst hx9
          by_cases hj2 : j ≤ 1
          · skip
            obtain ⟨z9, hz9⟩ : ∃ z9, K - (j : Int) = z9 := ⟨_, rfl⟩
            have hT : valF [x3, x4, x5] t 3 3 z9 = 1 - (j : Int) := by
              rcases (show j = 0 ∨ j = 1 by omega) with rfl | rfl
              · rw [← hz9, show K - ((0 : Nat) : Int) = K by omega, v1]; omega
              · rw [← hz9, show K - ((1 : Nat) : Int) = K - 1 by omega, v0]; omega
            have hzz : 0 ≤ z9 ∧ z9 ≤ 256 := by omega
            have V1 : IntKind.i64.wrap (K - (j : Int)) = z9 := by rw [hz9]; exact IntWalk.i64_in _ (by omega)
            have d2 : decide ((j : Int) ≤ 1) = true := decide_eq_true (by omega)
            have hrd : ReadsI wo (some ⟨w8.heap.size + 1, 0, none⟩) 3 [x3, x4, x5] := f11_3.step i1.below
            clear hz9
            go_wp2
            clear V1 d2
            have q0 : Blk (wo.alloc (.cells #[.int .i64 z9, .int .i64 0] 25)) wo.heap.size 25 #[.int .i64 z9, .int .i64 0] := Blk.new wo _ _
            have i0 : In wo.heap.size wo (wo.alloc (.cells #[.int .i64 z9, .int .i64 0] 25)) := (In.refl wo).alloc _
            go_loopw [18, 19] (fun l i wi => ∃ (k : Nat) (b : Bool) (g' f' : Int), k ≤ 3 ∧ i = .int .i64 k ∧ l = .bool b ∧ In wo.heap.size wo wi ∧ Blk wi wo.heap.size 25 #[.int .i64 g', .int .i64 f'] ∧ (b = true → 0 ≤ g' ∧ g' ≤ bnd (3 - k) ∧ f' = (k : Int) ∧ valF [x3, x4, x5] t 3 3 z9 = valF [x3, x4, x5] t 3 (3 - k) g') ∧ (b = false → valF [x3, x4, x5] t 3 3 z9 = 0)) (fun _ i _ => 3 - (intOf i).toNat)
            case atStart => exact ⟨0, true, z9, 0, by omega, rfl, rfl, i0, q0, fun _ => ⟨hzz.1, (by have : bnd 3 = 800 := (by decide); show z9 ≤ bnd 3; omega), rfl, rfl⟩, fun h => by cases h⟩
            case round =>
              obtain ⟨k, lb, g', f', hk, rfl, rfl, i2, k2, hbt, hbf⟩ := hrel
              clear q0 i0
              have c0 : wr.cell? ⟨wo.heap.size, 0, none⟩ = some (.int .i64 g') := k2.cell 0
              have c1 : wr.cell? ⟨wo.heap.size, 1, none⟩ = some (.int .i64 f') := k2.cell 1
              by_cases hkn : k < 3
              · skip
                have hkI : (k : Int) < 3 := by omega
                have d3 : decide ((k : Int) < 3) = true := decide_eq_true hkI
                cases lb
                · skip
                  have hz := hbf rfl
                  rw [hz] at hT
                  have hj9 : j = 1 := by omega
                  have d4 : decide ((j : Int) = 0) = false := decide_eq_false (by omega)
                  have d5 : ¬ ((j : Int) = 0) := by omega
                  have d6 : ((j : Int) == 0) = false := by simpa using d5
                  have V2 : IntKind.i64.wrap ((j : Int) + 1) = (j : Int) + 1 := by rw [IntWalk.i64_in _ (by omega)]
                  clear hbt hbf hT hz hj9
                  go_wp2
                  go_roundw
                  case rel => exact ⟨j + 1, by omega, by go_num, In.trans i1 i2⟩
                  case measure => simp [intOf]; omega
                · skip
                  obtain ⟨g0, gb, rfl, hv⟩ := hbt rfl
                  clear hbt hbf
                  have hd : 0 ≤ [x3, x4, x5].getD k 0 ∧ [x3, x4, x5].getD k 0 ≤ 255 := by
                    rcases (show k = 0 ∨ k = 1 ∨ k = 2 by omega) with rfl | rfl | rfl
                    · exact h3
                    · exact h4
                    · exact h5
                  obtain ⟨g2, f2, g3, f3, c, e, eF, eT, hce, hce0⟩ := day_all [x3, x4, x5] hkn ht hd g0 gb
                  obtain ⟨_, ⟨⟩, ca⟩ := hrd.2 k hkn
                  generalize [x3, x4, x5].getD k 0 = d at *
                  have CA := Lib.hid ca
                  have HF := Lib.hid (fun W => sFeed g' k t W)
                  rw [eF] at HF
                  have HT := Lib.hid (fun W => sTakeLeaven g2 f2 d 1 W)
                  rw [eT] at HT
                  clear ca eF eT
                  have HC := Lib.hid hce
                  have HC0 := Lib.hid hce0
                  clear hce hce0
                  have HTv := Lib.hid hT
                  have HV := Lib.hid hv
                  clear hT hv
                  go_wp2_with fail
                  refine (HF.out _).mono ?_
                  rintro _ w11 ⟨rfl, hb11⟩
                  clear HF
                  have k3 := Blk.step k2 hb11
                  have i3 := i2.step hb11
                  clear hb11 k2 i2 c0 c1
                  go_wp2
                  have k4 := k3.alloc (Obj.cells #[.int .i64 g2, .int .i64 f2] 25)
                  have i4 := i3.alloc (Obj.cells #[.int .i64 g2, .int .i64 f2] 25)
                  have kF : Blk (w11.alloc (.cells #[.int .i64 g2, .int .i64 f2] 25)) w11.heap.size 25 #[.int .i64 g2, .int .i64 f2] := Blk.new w11 _ _
                  clear k3 i3
                  generalize World.alloc w11 (Obj.cells #[.int .i64 g2, .int .i64 f2] 25) = W2 at k4 i4 kF ⊢
                  generalize w11.heap.size = n11 at *
                  have m0 : W2.cell? ⟨n11, 0, none⟩ = some (.int .i64 g2) := kF.cell 0
                  have m1 : W2.cell? ⟨n11, 1, none⟩ = some (.int .i64 f2) := kF.cell 1
                  have m2 := cell_in CA.out i4
                  have m3 : W2.cell? ⟨w8.heap.size + 1, k, none⟩ = some (.int .i64 d) := by
                    have h := m2
                    rcases (show k = 0 ∨ k ≠ 0 by omega) with hk0 | hk0 <;> (simp [Addr.add, hk0] at h ⊢; exact h)
                  have ml0 := cell_lt m0
                  have ml3 := cell_lt m3
                  have mlz := k4.lt
                  simp only [] at ml0 ml3
                  have mn0 : ¬ (n11 = W2.heap.size) := by omega
                  have mn3 : ¬ (w8.heap.size + 1 = W2.heap.size) := by omega
                  have mnz : ¬ (wo.heap.size = W2.heap.size) := by omega
                  have mnz2 : ¬ (W2.heap.size = wo.heap.size) := by omega
                  have hBz : wo.heap.size ≤ W2.heap.size := i4.size
                  have hkz : (0 : Int) ≤ (k : Int) := by omega
                  clear kF
                  go_region_with (go_at_call 15; (refine (HT.out _).mono ?_; rintro _ w3 ⟨rfl, hb3⟩; first | (have hb4 : Below W2.drew.heap.size W2.drew w3 := hb3; obtain ⟨j3, b3, e0, e1, z0, z1, hw3⟩ := box2 i4 k4 hb4) | (obtain ⟨⟨j3, b3, e0, e1, z0, z1, hw3⟩, y0, y1, y2, y3, y4⟩ := box3 i4 k4 hb3)))
                  · clear HT
                    cases c
                    · skip
                      go_wp2
                      go_roundw
                      case rel => first | exact ⟨k + 1, false, g3, f3, by omega, by go_num, rfl, ((j3.set_ (Nat.le_refl _) _).set_ (Nat.le_refl _) _).alloc _, ((b3.set_ 0 _).set_ 1 _).alloc _, (fun h => by cases h), (fun _ => HV.out.trans (HC0.out rfl))⟩ | exact ⟨k + 1, false, g3, f3, by omega, by go_num, rfl, (((j3.set_ hBz _).set_ hBz _).set_ (Nat.le_refl _) _).set_ (Nat.le_refl _) _, (((b3.far mnz _).far mnz _).set_ 0 _).set_ 1 _, (fun h => by cases h), (fun _ => HV.out.trans (HC0.out rfl))⟩
                      case measure => simp [intOf]; omega
                    · skip
                      go_wp2
                      go_roundw
                      case rel => first | exact ⟨k + 1, e, g3, f3, by omega, by go_num, rfl, ((j3.set_ (Nat.le_refl _) _).set_ (Nat.le_refl _) _).alloc _, ((b3.set_ 0 _).set_ 1 _).alloc _, (fun h => by obtain ⟨a1, a2, a3, a4⟩ := HC.out (by rw [h]; rfl); exact ⟨a1, a2, by omega, HV.out.trans a4⟩), (fun h => HV.out.trans (HC0.out (by rw [h]; rfl)))⟩ | exact ⟨k + 1, e, g3, f3, by omega, by go_num, rfl, (((j3.set_ hBz _).set_ hBz _).set_ (Nat.le_refl _) _).set_ (Nat.le_refl _) _, (((b3.far mnz _).far mnz _).set_ 0 _).set_ 1 _, (fun h => by obtain ⟨a1, a2, a3, a4⟩ := HC.out (by rw [h]; rfl); exact ⟨a1, a2, by omega, HV.out.trans a4⟩), (fun h => HV.out.trans (HC0.out (by rw [h]; rfl)))⟩
                      case measure => simp [intOf]; omega
                  · clear HT
                    cases c
                    · skip
                      go_wp2
                      go_roundw
                      case rel => first | exact ⟨k + 1, false, g3, f3, by omega, by go_num, rfl, ((j3.set_ (Nat.le_refl _) _).set_ (Nat.le_refl _) _).alloc _, ((b3.set_ 0 _).set_ 1 _).alloc _, (fun h => by cases h), (fun _ => HV.out.trans (HC0.out rfl))⟩ | exact ⟨k + 1, false, g3, f3, by omega, by go_num, rfl, (((j3.set_ hBz _).set_ hBz _).set_ (Nat.le_refl _) _).set_ (Nat.le_refl _) _, (((b3.far mnz _).far mnz _).set_ 0 _).set_ 1 _, (fun h => by cases h), (fun _ => HV.out.trans (HC0.out rfl))⟩
                      case measure => simp [intOf]; omega
                    · skip
                      go_wp2
                      go_roundw
                      case rel => first | exact ⟨k + 1, e, g3, f3, by omega, by go_num, rfl, ((j3.set_ (Nat.le_refl _) _).set_ (Nat.le_refl _) _).alloc _, ((b3.set_ 0 _).set_ 1 _).alloc _, (fun h => by obtain ⟨a1, a2, a3, a4⟩ := HC.out (by rw [h]; rfl); exact ⟨a1, a2, by omega, HV.out.trans a4⟩), (fun h => HV.out.trans (HC0.out (by rw [h]; rfl)))⟩ | exact ⟨k + 1, e, g3, f3, by omega, by go_num, rfl, (((j3.set_ hBz _).set_ hBz _).set_ (Nat.le_refl _) _).set_ (Nat.le_refl _) _, (((b3.far mnz _).far mnz _).set_ 0 _).set_ 1 _, (fun h => by obtain ⟨a1, a2, a3, a4⟩ := HC.out (by rw [h]; rfl); exact ⟨a1, a2, by omega, HV.out.trans a4⟩), (fun h => HV.out.trans (HC0.out (by rw [h]; rfl)))⟩
                      case measure => simp [intOf]; omega
                  · clear HT
                    cases c
                    · skip
                      go_wp2
                      go_roundw
                      case rel => first | exact ⟨k + 1, false, g3, f3, by omega, by go_num, rfl, ((j3.set_ (Nat.le_refl _) _).set_ (Nat.le_refl _) _).alloc _, ((b3.set_ 0 _).set_ 1 _).alloc _, (fun h => by cases h), (fun _ => HV.out.trans (HC0.out rfl))⟩ | exact ⟨k + 1, false, g3, f3, by omega, by go_num, rfl, (((j3.set_ hBz _).set_ hBz _).set_ (Nat.le_refl _) _).set_ (Nat.le_refl _) _, (((b3.far mnz _).far mnz _).set_ 0 _).set_ 1 _, (fun h => by cases h), (fun _ => HV.out.trans (HC0.out rfl))⟩
                      case measure => simp [intOf]; omega
                    · skip
                      go_wp2
                      go_roundw
                      case rel => first | exact ⟨k + 1, e, g3, f3, by omega, by go_num, rfl, ((j3.set_ (Nat.le_refl _) _).set_ (Nat.le_refl _) _).alloc _, ((b3.set_ 0 _).set_ 1 _).alloc _, (fun h => by obtain ⟨a1, a2, a3, a4⟩ := HC.out (by rw [h]; rfl); exact ⟨a1, a2, by omega, HV.out.trans a4⟩), (fun h => HV.out.trans (HC0.out (by rw [h]; rfl)))⟩ | exact ⟨k + 1, e, g3, f3, by omega, by go_num, rfl, (((j3.set_ hBz _).set_ hBz _).set_ (Nat.le_refl _) _).set_ (Nat.le_refl _) _, (((b3.far mnz _).far mnz _).set_ 0 _).set_ 1 _, (fun h => by obtain ⟨a1, a2, a3, a4⟩ := HC.out (by rw [h]; rfl); exact ⟨a1, a2, by omega, HV.out.trans a4⟩), (fun h => HV.out.trans (HC0.out (by rw [h]; rfl)))⟩
                      case measure => simp [intOf]; omega
                  · clear HT
                    cases c
                    · skip
                      go_wp2
                      go_roundw
                      case rel => first | exact ⟨k + 1, false, g3, f3, by omega, by go_num, rfl, ((j3.set_ (Nat.le_refl _) _).set_ (Nat.le_refl _) _).alloc _, ((b3.set_ 0 _).set_ 1 _).alloc _, (fun h => by cases h), (fun _ => HV.out.trans (HC0.out rfl))⟩ | exact ⟨k + 1, false, g3, f3, by omega, by go_num, rfl, (((j3.set_ hBz _).set_ hBz _).set_ (Nat.le_refl _) _).set_ (Nat.le_refl _) _, (((b3.far mnz _).far mnz _).set_ 0 _).set_ 1 _, (fun h => by cases h), (fun _ => HV.out.trans (HC0.out rfl))⟩
                      case measure => simp [intOf]; omega
                    · skip
                      go_wp2
                      go_roundw
                      case rel => first | exact ⟨k + 1, e, g3, f3, by omega, by go_num, rfl, ((j3.set_ (Nat.le_refl _) _).set_ (Nat.le_refl _) _).alloc _, ((b3.set_ 0 _).set_ 1 _).alloc _, (fun h => by obtain ⟨a1, a2, a3, a4⟩ := HC.out (by rw [h]; rfl); exact ⟨a1, a2, by omega, HV.out.trans a4⟩), (fun h => HV.out.trans (HC0.out (by rw [h]; rfl)))⟩ | exact ⟨k + 1, e, g3, f3, by omega, by go_num, rfl, (((j3.set_ hBz _).set_ hBz _).set_ (Nat.le_refl _) _).set_ (Nat.le_refl _) _, (((b3.far mnz _).far mnz _).set_ 0 _).set_ 1 _, (fun h => by obtain ⟨a1, a2, a3, a4⟩ := HC.out (by rw [h]; rfl); exact ⟨a1, a2, by omega, HV.out.trans a4⟩), (fun h => HV.out.trans (HC0.out (by rw [h]; rfl)))⟩
                      case measure => simp [intOf]; omega
                  · clear HT
                    cases c
                    · skip
                      go_wp2
                      go_roundw
                      case rel => first | exact ⟨k + 1, false, g3, f3, by omega, by go_num, rfl, ((j3.set_ (Nat.le_refl _) _).set_ (Nat.le_refl _) _).alloc _, ((b3.set_ 0 _).set_ 1 _).alloc _, (fun h => by cases h), (fun _ => HV.out.trans (HC0.out rfl))⟩ | exact ⟨k + 1, false, g3, f3, by omega, by go_num, rfl, (((j3.set_ hBz _).set_ hBz _).set_ (Nat.le_refl _) _).set_ (Nat.le_refl _) _, (((b3.far mnz _).far mnz _).set_ 0 _).set_ 1 _, (fun h => by cases h), (fun _ => HV.out.trans (HC0.out rfl))⟩
                      case measure => simp [intOf]; omega
                    · skip
                      go_wp2
                      go_roundw
                      case rel => first | exact ⟨k + 1, e, g3, f3, by omega, by go_num, rfl, ((j3.set_ (Nat.le_refl _) _).set_ (Nat.le_refl _) _).alloc _, ((b3.set_ 0 _).set_ 1 _).alloc _, (fun h => by obtain ⟨a1, a2, a3, a4⟩ := HC.out (by rw [h]; rfl); exact ⟨a1, a2, by omega, HV.out.trans a4⟩), (fun h => HV.out.trans (HC0.out (by rw [h]; rfl)))⟩ | exact ⟨k + 1, e, g3, f3, by omega, by go_num, rfl, (((j3.set_ hBz _).set_ hBz _).set_ (Nat.le_refl _) _).set_ (Nat.le_refl _) _, (((b3.far mnz _).far mnz _).set_ 0 _).set_ 1 _, (fun h => by obtain ⟨a1, a2, a3, a4⟩ := HC.out (by rw [h]; rfl); exact ⟨a1, a2, by omega, HV.out.trans a4⟩), (fun h => HV.out.trans (HC0.out (by rw [h]; rfl)))⟩
                      case measure => simp [intOf]; omega
                  · clear HT
                    cases c
                    · skip
                      go_wp2
                      go_roundw
                      case rel => first | exact ⟨k + 1, false, g3, f3, by omega, by go_num, rfl, ((j3.set_ (Nat.le_refl _) _).set_ (Nat.le_refl _) _).alloc _, ((b3.set_ 0 _).set_ 1 _).alloc _, (fun h => by cases h), (fun _ => HV.out.trans (HC0.out rfl))⟩ | exact ⟨k + 1, false, g3, f3, by omega, by go_num, rfl, (((j3.set_ hBz _).set_ hBz _).set_ (Nat.le_refl _) _).set_ (Nat.le_refl _) _, (((b3.far mnz _).far mnz _).set_ 0 _).set_ 1 _, (fun h => by cases h), (fun _ => HV.out.trans (HC0.out rfl))⟩
                      case measure => simp [intOf]; omega
                    · skip
                      go_wp2
                      go_roundw
                      case rel => first | exact ⟨k + 1, e, g3, f3, by omega, by go_num, rfl, ((j3.set_ (Nat.le_refl _) _).set_ (Nat.le_refl _) _).alloc _, ((b3.set_ 0 _).set_ 1 _).alloc _, (fun h => by obtain ⟨a1, a2, a3, a4⟩ := HC.out (by rw [h]; rfl); exact ⟨a1, a2, by omega, HV.out.trans a4⟩), (fun h => HV.out.trans (HC0.out (by rw [h]; rfl)))⟩ | exact ⟨k + 1, e, g3, f3, by omega, by go_num, rfl, (((j3.set_ hBz _).set_ hBz _).set_ (Nat.le_refl _) _).set_ (Nat.le_refl _) _, (((b3.far mnz _).far mnz _).set_ 0 _).set_ 1 _, (fun h => by obtain ⟨a1, a2, a3, a4⟩ := HC.out (by rw [h]; rfl); exact ⟨a1, a2, by omega, HV.out.trans a4⟩), (fun h => HV.out.trans (HC0.out (by rw [h]; rfl)))⟩
                      case measure => simp [intOf]; omega
                  · clear HT
                    cases c
                    · skip
                      go_wp2
                      go_roundw
                      case rel => first | exact ⟨k + 1, false, g3, f3, by omega, by go_num, rfl, ((j3.set_ (Nat.le_refl _) _).set_ (Nat.le_refl _) _).alloc _, ((b3.set_ 0 _).set_ 1 _).alloc _, (fun h => by cases h), (fun _ => HV.out.trans (HC0.out rfl))⟩ | exact ⟨k + 1, false, g3, f3, by omega, by go_num, rfl, (((j3.set_ hBz _).set_ hBz _).set_ (Nat.le_refl _) _).set_ (Nat.le_refl _) _, (((b3.far mnz _).far mnz _).set_ 0 _).set_ 1 _, (fun h => by cases h), (fun _ => HV.out.trans (HC0.out rfl))⟩
                      case measure => simp [intOf]; omega
                    · skip
                      go_wp2
                      go_roundw
                      case rel => first | exact ⟨k + 1, e, g3, f3, by omega, by go_num, rfl, ((j3.set_ (Nat.le_refl _) _).set_ (Nat.le_refl _) _).alloc _, ((b3.set_ 0 _).set_ 1 _).alloc _, (fun h => by obtain ⟨a1, a2, a3, a4⟩ := HC.out (by rw [h]; rfl); exact ⟨a1, a2, by omega, HV.out.trans a4⟩), (fun h => HV.out.trans (HC0.out (by rw [h]; rfl)))⟩ | exact ⟨k + 1, e, g3, f3, by omega, by go_num, rfl, (((j3.set_ hBz _).set_ hBz _).set_ (Nat.le_refl _) _).set_ (Nat.le_refl _) _, (((b3.far mnz _).far mnz _).set_ 0 _).set_ 1 _, (fun h => by obtain ⟨a1, a2, a3, a4⟩ := HC.out (by rw [h]; rfl); exact ⟨a1, a2, by omega, HV.out.trans a4⟩), (fun h => HV.out.trans (HC0.out (by rw [h]; rfl)))⟩
                      case measure => simp [intOf]; omega
                  · clear HT
                    cases c
                    · skip
                      go_wp2
                      go_roundw
                      case rel => first | exact ⟨k + 1, false, g3, f3, by omega, by go_num, rfl, ((j3.set_ (Nat.le_refl _) _).set_ (Nat.le_refl _) _).alloc _, ((b3.set_ 0 _).set_ 1 _).alloc _, (fun h => by cases h), (fun _ => HV.out.trans (HC0.out rfl))⟩ | exact ⟨k + 1, false, g3, f3, by omega, by go_num, rfl, (((j3.set_ hBz _).set_ hBz _).set_ (Nat.le_refl _) _).set_ (Nat.le_refl _) _, (((b3.far mnz _).far mnz _).set_ 0 _).set_ 1 _, (fun h => by cases h), (fun _ => HV.out.trans (HC0.out rfl))⟩
                      case measure => simp [intOf]; omega
                    · skip
                      go_wp2
                      go_roundw
                      case rel => first | exact ⟨k + 1, e, g3, f3, by omega, by go_num, rfl, ((j3.set_ (Nat.le_refl _) _).set_ (Nat.le_refl _) _).alloc _, ((b3.set_ 0 _).set_ 1 _).alloc _, (fun h => by obtain ⟨a1, a2, a3, a4⟩ := HC.out (by rw [h]; rfl); exact ⟨a1, a2, by omega, HV.out.trans a4⟩), (fun h => HV.out.trans (HC0.out (by rw [h]; rfl)))⟩ | exact ⟨k + 1, e, g3, f3, by omega, by go_num, rfl, (((j3.set_ hBz _).set_ hBz _).set_ (Nat.le_refl _) _).set_ (Nat.le_refl _) _, (((b3.far mnz _).far mnz _).set_ 0 _).set_ 1 _, (fun h => by obtain ⟨a1, a2, a3, a4⟩ := HC.out (by rw [h]; rfl); exact ⟨a1, a2, by omega, HV.out.trans a4⟩), (fun h => HV.out.trans (HC0.out (by rw [h]; rfl)))⟩
                      case measure => simp [intOf]; omega
              · skip
                obtain rfl : k = 3 := by omega
                have d3 : decide (((3 : Nat) : Int) < 3) = false := by decide
                cases lb
                · skip
                  have hz := hbf rfl
                  rw [hz] at hT
                  have hj9 : j = 1 := by omega
                  have d4 : decide ((j : Int) = 0) = false := decide_eq_false (by omega)
                  have d5 : ¬ ((j : Int) = 0) := by omega
                  have d6 : ((j : Int) == 0) = false := by simpa using d5
                  have V2 : IntKind.i64.wrap ((j : Int) + 1) = (j : Int) + 1 := by rw [IntWalk.i64_in _ (by omega)]
                  clear hbt hbf hT hz hj9
                  go_wp2
                  go_roundw
                  case rel => exact ⟨j + 1, by omega, by go_num, In.trans i1 i2⟩
                  case measure => simp [intOf]; omega
                · skip
                  obtain ⟨g0, gb, rfl, hv⟩ := hbt rfl
                  rw [hv, show valF [x3, x4, x5] t 3 (3 - 3) g' = 1 from rfl] at hT
                  have hj9 : (j : Int) = 0 := by omega
                  have d4 : decide ((j : Int) = 0) = true := decide_eq_true hj9
                  have d6 : ((j : Int) == 0) = true := by simpa using hj9
                  have V2 : IntKind.i64.wrap ((j : Int) + 1) = (j : Int) + 1 := by rw [IntWalk.i64_in _ (by omega)]
                  clear hbt hbf hT hv
                  go_wp2
                  go_roundw
                  case rel => exact ⟨j + 1, by omega, by go_num, In.trans i1 i2⟩
                  case measure => simp [intOf]; omega
          · skip
            obtain rfl : j = 2 := by omega
            have d4 : decide (((2 : Nat) : Int) ≤ 1) = false := by decide
            have f12_0 : In w.heap.size w wo := f11_0.step i1.below
            have f12_1 : wo.cell? ⟨w1.heap.size, 0, none⟩ = some (.int .i64 G) := cell_in f11_1 ⟨i1.below, i1.below.size⟩
            have f12_2 : wo.cell? ⟨w1.heap.size, 1, none⟩ = some (.int .i64 u1) := cell_in f11_2 ⟨i1.below, i1.below.size⟩
            clear f11_0 f11_1 f11_2
            have HLV := Lib.hid (fun W => iLeavenOk G u1 W)
            rw [show leavB G u1 = true by simp [leavB, inB]; omega] at HLV
            have HKN := Lib.hid (fun W => iKeepForDays none 0 0 [] 2 W (by unfold maxLen; omega) ⟨rfl, fun i hi => absurd hi (Nat.not_lt_zero i)⟩)
            rw [show keepV 0 [] 2 = 0 by decide] at HKN
            clear i1
            go_wp2_with fail
            refine (HLV.out _).mono ?_
            rintro _ w13 ⟨rfl, hb13⟩
            have f13_0 : In w.heap.size w w13 := f12_0.step hb13
            have f13_1 : w13.cell? ⟨w1.heap.size, 0, none⟩ = some (.int .i64 G) := cell_in f12_1 ⟨hb13, hb13.size⟩
            have f13_2 : w13.cell? ⟨w1.heap.size, 1, none⟩ = some (.int .i64 u1) := cell_in f12_2 ⟨hb13, hb13.size⟩
            clear f12_0 f12_1 f12_2
            clear hb13
            clear HLV
            skip
            go_wp2_with fail
            refine (HKN.out _).mono ?_
            rintro _ w14 ⟨rfl, hb14⟩
            have f14_0 : In w.heap.size w w14 := f13_0.step hb14
            have f14_1 : w14.cell? ⟨w1.heap.size, 0, none⟩ = some (.int .i64 G) := cell_in f13_1 ⟨hb14, hb14.size⟩
            have f14_2 : w14.cell? ⟨w1.heap.size, 1, none⟩ = some (.int .i64 u1) := cell_in f13_2 ⟨hb14, hb14.size⟩
            clear f13_0 f13_1 f13_2
            clear hb14
            clear HKN
            go_wp2
            go_ret
            exact ⟨ret_bool rfl, f14_0.below⟩
end Go.Proofs.Ytkaaebpoljnbnaa
