/- The law FnBlends. -/
import Derived.Test.YtmkfnhgaiheckaaBlP
import Derived.Test.YtmkfnhgaiheckaaDsFlour
import Derived.Test.YtmkfnhgaiheckaaStgI
import Derived.Test.YtmkfnhgaiheckaaW27
import Derived.Test.YtmkfnhgaiheckaaAtAll
import Derived.Test.YtmkfnhgaiheckaaQuietL
import Derived.Test.YtmkfnhgaiheckaaApp
import Derived.Test.YtmkfnhgaiheckaaOwnM
import Derived.BigQuiet
import Derived.Deep.QuietTactic
namespace Go.Proofs.Ytmkfnhgaiheckaa
open Go.ChangeShapes Go.WideShapes Go.ChangeAt Go.RowKit
set_option linter.unusedVariables false
set_option linter.unusedSimpArgs false
set_option maxHeartbeats 2000000

theorem lit_blend : strengthV 2 [⟨100, 1, 5⟩, ⟨200, 1, 5⟩] 2 [1, 1] = 150 := by decide
theorem zero_cost {n : Nat} {xs : List FlourR} (hF : floursB n xs = true) : costV27 n xs n (kL (fun _ => 0) n) = 0 := by
  rw [kL_cost hF fun i hi => ⟨Int.le_refl _, fl_k hF i hi⟩]
  exact sumTo_zero _ _ fun i _ => Int.zero_mul _
theorem drf_flours {n : Nat} {xs : List FlourR} (h1 : 1 ≤ n) (h4 : n ≤ 4) (h : ∀ i, i < n → (100 ≤ (xs.getD i z27).f0 ∧ (xs.getD i z27).f0 ≤ 345) ∧ (1 ≤ (xs.getD i z27).f1 ∧ (xs.getD i z27).f1 ≤ 20) ∧ 0 ≤ (xs.getD i z27).f2 ∧ (xs.getD i z27).f2 ≤ 29) : floursB n xs = true := by
  simp only [floursB, Bool.and_eq_true]
  refine ⟨allOk_t _ _ fun i hi => ?_, inB_y (by omega) (by omega)⟩
  obtain ⟨⟨a1, a2⟩, ⟨a3, a4⟩, a5, a6⟩ := h i hi
  unfold flK flB
  rw [inB_y (by omega) (by omega), inB_y (by omega) (by omega), inB_y (by omega) (by omega)]; rfl
theorem reads_ltwo (w : World) (t : TypeId) (a b : Int) : ReadsI (w.alloc (.cells #[.int .i64 a, .int .i64 b] t)) (some ⟨w.heap.size, 0, none⟩) 2 [a, b] := by
  have k := Blk.new w t #[.int .i64 a, .int .i64 b]
  refine ⟨rfl, fun i hi => ⟨_, rfl, ?_⟩⟩
  rw [Addr.add_lit, Nat.zero_add]
  have hi2 : i = 0 ∨ i = 1 := by omega
  rcases hi2 with rfl | rfl
  · exact k.cell 0
  · exact k.cell 1
theorem reads_lflour (w : World) (t : TypeId) : ReadsFlour (w.alloc (.cells #[.int .i64 100, .int .i64 1, .int .i64 5, .int .i64 200, .int .i64 1, .int .i64 5] t)) (some ⟨w.heap.size, 0, none⟩) 2 [⟨100, 1, 5⟩, ⟨200, 1, 5⟩] := by
  have k := Blk.new w t #[.int .i64 100, .int .i64 1, .int .i64 5, .int .i64 200, .int .i64 1, .int .i64 5]
  refine ⟨rfl, fun i hi => ⟨_, rfl, ?_⟩⟩
  have hi2 : i = 0 ∨ i = 1 := by omega
  rcases hi2 with rfl | rfl
  · exact ⟨k.cell 0, k.cell 1, k.cell 2⟩
  · exact ⟨k.cell 3, k.cell 4, k.cell 5⟩
/-- the bytes that choose the kilos -/
def bF (x0 x1 x2 x3 : Int) (i : Nat) : Int := if i = 0 then x0 else if i = 1 then x1 else if i = 2 then x2 else x3
theorem bF_in {x0 x1 x2 x3 : Int} (h0 : 0 ≤ x0 ∧ x0 ≤ 255) (h1 : 0 ≤ x1 ∧ x1 ≤ 255) (h2 : 0 ≤ x2 ∧ x2 ≤ 255) (h3 : 0 ≤ x3 ∧ x3 ≤ 255) (i : Nat) : 0 ≤ bF x0 x1 x2 x3 i ∧ bF x0 x1 x2 x3 i ≤ 255 := by
  unfold bF; split
  · exact h0
  · split
    · exact h1
    · split
      · exact h2
      · exact h3
set_option maxHeartbeats 80000000 in
set_option maxRecDepth 20000 in
theorem walk_FnBlends (a0 : Option Addr) (len0 cap0 : Nat) (z0 : List Int) (w : World) (w0 : IsRow .u8 w a0 len0 cap0 z0) :
    Calls Try.prog 6 #[.slice a0 len0 cap0] w fun e w' => e = .returned (.bool true) ∧ Below w.heap.size w w' := by
  have hb := ReadsU.of_row w0
  have hm := hb.1
  clear w0
  by_cases hbig : (1048576 : Int) < (len0 : Int)
  · go_enter Try.func6, Try.ntmps6
    go_wp2_with fail
    refine (bigU _ _ _ _ hm true (by simpa using hbig)).mono ?_
    rintro e w' ⟨rfl, rfl⟩
    go_wp2_with fail
    go_ret
    exact ⟨rfl, Below.refl _ _⟩
  have HB := Lib.hid hb
  obtain ⟨x0, h0, A0⟩ := at_all a0 len0 cap0 0 w (by omega) (by omega) hb
  have HA0 := Lib.hid A0
  clear A0
  obtain ⟨x1, h1, A1⟩ := at_all a0 len0 cap0 1 w (by omega) (by omega) hb
  have HA1 := Lib.hid A1
  clear A1
  obtain ⟨x2, h2, A2⟩ := at_all a0 len0 cap0 2 w (by omega) (by omega) hb
  have HA2 := Lib.hid A2
  clear A2
  obtain ⟨x3, h3, A3⟩ := at_all a0 len0 cap0 3 w (by omega) (by omega) hb
  have HA3 := Lib.hid A3
  clear A3
  obtain ⟨x4, h4, A4⟩ := at_all a0 len0 cap0 4 w (by omega) (by omega) hb
  have HA4 := Lib.hid A4
  clear A4
  obtain ⟨x5, h5, A5⟩ := at_all a0 len0 cap0 5 w (by omega) (by omega) hb
  have HA5 := Lib.hid A5
  clear A5
  obtain ⟨x6, h6, A6⟩ := at_all a0 len0 cap0 6 w (by omega) (by omega) hb
  have HA6 := Lib.hid A6
  clear A6
  obtain ⟨x7, h7, A7⟩ := at_all a0 len0 cap0 7 w (by omega) (by omega) hb
  have HA7 := Lib.hid A7
  clear A7
  go_enter Try.func6, Try.ntmps6
  go_wp2_with fail
  refine (bigU _ _ _ _ hm false (by simpa using hbig)).mono ?_
  rintro e w' ⟨rfl, rfl⟩
  clear hbig hm hb
  have f0_0 : In w.heap.size w w := In.refl w
  obtain ⟨i0, hi0, hz0, hz1, hz2⟩ := info_parts infoN
  have hbu := HB.out
  go_wp2_with fail
  refine (DrawFlours_c _ _ _ _ (bytes_of hbu)).mono ?_
  rintro _ w1 ⟨A, cp, n, xs, rfl, ⟨hn1, hn4⟩, hP, hl, hown, hnc, hb1⟩
  have f1_0 : In w.heap.size w w1 := f0_0.step hb1
  have f1_1 : ReadsFlour w1 A n xs := reads_own_Flour hl hown
  clear f0_0
  clear hb1 hown hbu
  have hP : ∀ i, i < n → (100 ≤ (xs.getD i z27).f0 ∧ (xs.getD i z27).f0 ≤ 345) ∧ (1 ≤ (xs.getD i z27).f1 ∧ (xs.getD i z27).f1 ≤ 20) ∧ 0 ≤ (xs.getD i z27).f2 ∧ (xs.getD i z27).f2 ≤ 29 := hP
  have hF := drf_flours hn1 hn4 hP
  have HP := Lib.hid hP
  have HF := Lib.hid hF
  have hnm : n ≤ maxLen := by unfold maxLen; omega
  have HNM := Lib.hid hnm
  have HXB := Lib.hid (bF_in h0 h1 h2 h3)
  have HAK : Hid (∀ k : Nat, k < 4 → ∀ X, In w.heap.size w X → Calls Try.prog 33 #[.slice a0 len0 cap0, .int .i64 (k : Int)] X (Same (.int .i64 (bF x0 x1 x2 x3 k)) X)) := Lib.hid fun k hk X hX => by
    have hk4 : k = 0 ∨ k = 1 ∨ k = 2 ∨ k = 3 := by omega
    rcases hk4 with rfl | rfl | rfl | rfl
    · exact HA0.out X hX
    · exact HA1.out X hX
    · exact HA2.out X hX
    · exact HA3.out X hX
  obtain ⟨bf, hbf⟩ : ∃ bf, bF x0 x1 x2 x3 = bf := ⟨_, rfl⟩
  rw [hbf] at HAK HXB
  clear hbf HA0 HA1 HA2 HA3 HA4 h0 h1 h2 h3 h4
  obtain ⟨yf, hyf⟩ : ∃ yf : Nat → Int, yf = fun i => bf i % (kI xs i + 1) := ⟨_, rfl⟩
  have HYF : Hid (∀ i, bf i % (kI xs i + 1) = yf i) := Lib.hid fun i => by rw [hyf]
  have hy : ∀ i, i < n → 0 ≤ yf i ∧ yf i ≤ kI xs i := fun i hi => by
    have := fl_k hF i hi
    have h1 := Int.emod_nonneg (bf i) (b := kI xs i + 1) (by omega)
    have h2 := Int.emod_lt_of_pos (bf i) (b := kI xs i + 1) (by omega)
    rw [hyf]
    exact ⟨h1, by show bf i % (kI xs i + 1) ≤ kI xs i; omega⟩
  clear hyf
  have HY := Lib.hid hy
  have HSUM : Hid (∀ k, k ≤ n → 0 ≤ sumTo yf k ∧ sumTo yf k ≤ 29 * k) := Lib.hid fun k hk => by
    have := sumTo_bd yf 29 k fun i hi => by
      have h1 := hy i (by omega)
      have h2 := (hP i (by omega)).2.2.2
      unfold kI at h1
      omega
    omega
  have HCST : Hid (∀ k, k ≤ n → 0 ≤ sumTo (fun i => yf i * (xs.getD i z27).f1) k ∧ sumTo (fun i => yf i * (xs.getD i z27).f1) k ≤ 580 * k) := Lib.hid fun k hk => by
    have := sumTo_bd (fun i => yf i * (xs.getD i z27).f1) 580 k fun i hi => by
      have h1 := hy i (by omega)
      obtain ⟨⟨p1, p2⟩, ⟨p3, p4⟩, p5, p6⟩ := hP i (by omega)
      unfold kI at h1
      have := mul_in (a := yf i) (b := (xs.getD i z27).f1) (A := 29) (B := 20) (by omega) (by omega) (by omega) (by omega)
      omega
    omega
  have HLH := Lib.hid (fun m (hm : m ≤ n) => lowF_in hF yf m hm)
  have eC := kL_cost hF hy
  have eZ := zero_cost hF
  have eS0 : sumTo yf n = 0 → strengthV n xs n (kL yf n) = -1 := fun h => by rw [kL_strength hF hy, if_pos h]
  have eS1 := mean_in hF hy
  have eG := stg_ge (tot := sumTo yf n) hF hy rfl
  have HES := Lib.hid (And.intro eS0 (And.intro eS1 eG))
  have HCS := Lib.hid (fun B d X (h : ReadsFlour X A n xs) (k : ReadsI X B n (kL yf n)) => iStrengthOf A n cp xs B n d (kL yf n) X hnm h hnm k)
  have HBC := Lib.hid (fun B d X (h : ReadsFlour X A n xs) (k : ReadsI X B n (kL yf n)) => iBlendCost A n cp xs B n d (kL yf n) X hnm h hnm k)
  rw [eC] at HBC
  have HBZ := Lib.hid (fun B d X (h : ReadsFlour X A n xs) (k : ReadsI X B n (kL (fun _ => 0) n)) => iBlendCost A n cp xs B n d (kL (fun _ => 0) n) X hnm h hnm k)
  rw [eZ] at HBZ
  have HSF := Lib.hid (fun tot X (h : ReadsFlour X A n xs) => iStrongestFor A n cp xs tot X hnm h)
  have HOK := Lib.hid (fun X (h : ReadsFlour X A n xs) => iFloursOk A n cp xs X hnm h)
  rw [hF] at HOK
  have HLIT := Lib.hid (fun B d C e X (h : ReadsFlour X B 2 [⟨100, 1, 5⟩, ⟨200, 1, 5⟩]) (k : ReadsI X C 2 [1, 1]) => iStrengthOf B 2 d [⟨100, 1, 5⟩, ⟨200, 1, 5⟩] C 2 e [1, 1] X (by unfold maxLen; omega) h (by unfold maxLen; omega) k)
  rw [lit_blend] at HLIT
  have HHL := Lib.hid hl
  clear eC eZ eS0 eS1 eG hP hy hl hnc
  obtain ⟨wB, hwB⟩ : ∃ q, q = w1 := ⟨_, rfl⟩
  subst hwB
  have own0 := own_new wB 3 wB.heap.size (Nat.le_refl _)
  have hbB : Below wB.heap.size wB (wB.alloc (.cells #[] 3)) := (Below.refl _ wB).alloc (Nat.le_refl _) _
  have g0 := f1_0.alloc (.cells #[] 3)
  have g1 : In wB.heap.size wB (wB.alloc (.cells #[] 3)) := ⟨hbB, by simp⟩
  have HRB := Lib.hid f1_1
  have HBW : Hid (w.heap.size ≤ wB.heap.size) := Lib.hid f1_0.size
  clear hbB f1_0 f1_1
  go_wp2_with fail
  generalize wB.alloc (.cells #[] 3) = wC at *
  go_loopw [4, 5, 6, 7, 8, 9] (fun v lo hi su co i wr => ∃ k : Nat, k ≤ n ∧ i = .int .i64 k ∧ wr.ownsRow wB.heap.size 3 1 v k (iv (kL yf k)) ∧ lo = .int .i64 (lowF xs yf k) ∧ hi = .int .i64 (higF xs yf k) ∧ su = .int .i64 (sumTo yf k) ∧ co = .int .i64 (sumTo (fun i => yf i * (xs.getD i z27).f1) k) ∧ In w.heap.size w wr ∧ In wB.heap.size wB wr) (fun _ _ _ _ _ i _ => n - (intOf i).toNat)
  case atStart => exact ⟨0, Nat.zero_le _, rfl, own0, rfl, rfl, rfl, rfl, g0, g1⟩
  case round =>
    clear own0 g0 g1
    obtain ⟨k, hk, rfl, hown, rfl, rfl, rfl, rfl, f0, f1⟩ := hrel
    obtain ⟨A1, c1, rfl⟩ := own_shape_i hown
    by_cases hlt : k < n
    · skip
      obtain ⟨ad, rfl, hc0, hc1, hc2⟩ := (HRB.out.in_ f1).2 k hlt
      have hpk := HP.out k hlt
      have hyk := HY.out k hlt
      have hyf := HYF.out k
      have hsk := HSUM.out k hk
      have hck := HCST.out k hk
      have hlh := HLH.out k hk
      have hxk := HXB.out k
      have HLS := Lib.hid (lowF_s xs yf k)
      have HHS := Lib.hid (higF_s xs yf k)
      have HSS := Lib.hid (sumTo_succ yf k)
      have HCC : Hid (sumTo (fun i => yf i * (xs.getD i z27).f1) (k + 1) = sumTo (fun i => yf i * (xs.getD i z27).f1) k + yf k * (xs.getD k z27).f1) := Lib.hid rfl
      have HKS := Lib.hid (kL_s yf k)
      have HAK9 := Lib.hid (HAK.out k (by omega))
      have e0 : sI xs k = (xs.getD k z27).f0 := rfl
      have e2 : kI xs k = (xs.getD k z27).f2 := rfl
      rw [e0] at HLS HHS
      rw [e2] at hyk hyf
      clear e0 e2
      obtain ⟨v, hv9⟩ : ∃ v, xs.getD k z27 = v := ⟨_, rfl⟩
      rw [hv9] at hc0 hc1 hc2 hpk hyk hyf HLS HHS HCC
      have HV9 := Lib.hid hv9
      clear hv9
      obtain ⟨v0, v1, v2⟩ := v
      simp only at hc0 hc1 hc2 hpk hyk hyf HLS HHS HCC
      generalize lowF xs yf k = lo at *
      generalize higF xs yf k = hi at *
      generalize sumTo yf k = su at *
      generalize sumTo (fun i => yf i * (xs.getD i z27).f1) k = co at *
      generalize hyk9 : yf k = y at *
      clear hyk9
      obtain ⟨xb, hxb⟩ : ∃ x, bf k = x := ⟨_, rfl⟩
      rw [hxb] at hyf hxk HAK9
      clear hxb
      obtain ⟨⟨a1, a2⟩, ⟨a3, a4⟩, a5, a6⟩ := hpk
      have hk4 : (k : Int) ≤ 4 := by omega
      obtain ⟨p, hp⟩ : ∃ p, y * v1 = p := ⟨_, rfl⟩
      have hpp := mul_in (a := y) (b := v1) (A := 29) (B := 20) (by omega) (by omega) (by omega) (by omega)
      rw [hp] at HCC hpp
      have q1 : IntKind.i64.wrap (v2 + 1) = v2 + 1 := by rw [IntWalk.i64_in _ (by omega)]
      have q2 : xb.tmod (v2 + 1) = y := by rw [Int.tmod_eq_emod_of_nonneg hxk.1, hyf]
      have q3 : (v2 + 1 == 0) = false := by simp; omega
      have q4 : ¬ (v2 + 1 = 0) := by omega
      have q5 : IntKind.i64.wrap y = y := by rw [IntWalk.i64_in _ (by omega)]
      clear hyf
      have HP9 := Lib.hid hp
      clear hp
      go_wp2
      refine wp_region_S (C := (fun w' => In w.heap.size w w' ∧ In wB.heap.size wB w' ∧ w'.ownsRow wB.heap.size 3 1 (.slice A1 k c1) k (iv (kL yf k)) ∧ w'.cell? (ad.add (k * 3)) = some (.int .i64 v0) ∧ w'.cell? ⟨(ad.add (k * 3)).block, (ad.add (k * 3)).off + 1, none⟩ = some (.int .i64 v1) ∧ w'.cell? ⟨(ad.add (k * 3)).block, (ad.add (k * 3)).off + 2, none⟩ = some (.int .i64 v2))) (by kernel_rfl) (by kernel_rfl) ?_ ?_
      · exact ⟨f0.drew, f1.drew, hown.drew, hc0, hc1, hc2⟩
      repeat (first | go_big_quiet_skip | (go_big_quiet_want; first | (refine quiet_ex ?_; apply Exists.intro; refine ⟨fun W hW => ?_, ?_⟩; (· (obtain ⟨f101_0, f101_1, f101_2, f101_3, f101_4, f101_5⟩ := hW; go_simp; (first | done | with_reducible rfl | rfl))); simp only [Act.put, List.setIfInBounds_toArray, List.set_cons_zero, List.set_cons_succ]; go_big_quiet_on) | (refine quiet_ex ?_; apply Exists.intro; refine ⟨fun W hW => ?_, ?_⟩; (· (go_simp; first | (go_at_call 33; (with_reducible refine (HAK9.out _ hW.1).mono ?_); rintro e w2 ⟨rfl, rfl⟩; exact ⟨rfl, hW⟩))); simp only [Act.put, List.setIfInBounds_toArray, List.set_cons_zero, List.set_cons_succ]; go_big_quiet_on)))
      refine wpQuiet_nil ?_
      rintro w' ⟨f101_0, f101_1, f101_2, f101_3, f101_4, f101_5⟩
      clear f0 f1 hown hc0 hc1 hc2
      obtain ⟨wb, hq9⟩ : ∃ q, q = w' := ⟨_, rfl⟩
      subst hq9
      clear q1 q2 q3 q4 q5 HAK9 hxk
      have F1 : Hid (∀ u ∈ (#[Value.int .i64 y] : Array Value).toList, u.oneCell' = true) := Lib.hid (by intro u hu; simp at hu; subst hu; rfl)
      have f12 : k + 1 ≤ maxLen := by unfold maxLen; omega
      have f13 : (k + 1) * 8 ≤ 140737488355328 := by omega
      have hBz : wB.heap.size ≤ wb.heap.size := f101_1.size
      have HO3 := Lib.hid f101_2
      have HI0 := Lib.hid f101_0
      have HI1 := Lib.hid f101_1
      have V1 : wrap64 (y * v1) = p := by rw [HP9.out, w64 ⟨by omega, by omega⟩]
      have hst := HCST.out k hk
      clear hst
      clear f101_0 f101_1 f101_2 f101_3 f101_4 f101_5
      by_cases hy0 : 0 < y
      · skip
        by_cases hl9 : v0 < lo
        · skip
          by_cases hh9 : hi < v0
          · skip
            go_wp2_with (at_builtin; refine wpList_app wb rfl (.tmp 42) (.tmp 44) 43 rfl wB.heap.size 3 i0 (.int .i64 0) 1 8 Try.underlying43 hi0 hz0 hz1 hz2 rfl Nat.one_pos (.slice A1 k c1) k (iv (kL yf k)) rfl HO3.out 1 #[.int .i64 y] rfl rfl F1.out f12 f13 hBz ?_; intro v9 w3 hown3 hbw3; obtain ⟨A3, c3, rfl⟩ := own_shape_i hown3; have hcl := (HRB.out.in_ (HI1.out.wide hbw3)).2 k hlt; obtain ⟨ad3, ee, hd0, hd1, hd2⟩ := hcl; obtain rfl := Option.some.inj ee; rw [HV9.out] at hd0 hd1 hd2; simp only at hd0 hd1 hd2)
            go_roundw
            case rel => exact ⟨k + 1, by omega, by go_num, by rw [HKS.out, iv_app]; exact hown3, v_int (by rw [HLS.out]; rw [if_pos hy0]; omega), v_int (by rw [HHS.out]; rw [if_pos hy0]; omega), v_int (by rw [HSS.out]), v_int (by rw [HCC.out]), HI0.out.wide (hbw3.mono HBW.out), HI1.out.wide hbw3⟩
            case measure => simp [intOf]; omega
          · skip
            go_wp2_with (at_builtin; refine wpList_app wb rfl (.tmp 42) (.tmp 44) 43 rfl wB.heap.size 3 i0 (.int .i64 0) 1 8 Try.underlying43 hi0 hz0 hz1 hz2 rfl Nat.one_pos (.slice A1 k c1) k (iv (kL yf k)) rfl HO3.out 1 #[.int .i64 y] rfl rfl F1.out f12 f13 hBz ?_; intro v9 w3 hown3 hbw3; obtain ⟨A3, c3, rfl⟩ := own_shape_i hown3; have hcl := (HRB.out.in_ (HI1.out.wide hbw3)).2 k hlt; obtain ⟨ad3, ee, hd0, hd1, hd2⟩ := hcl; obtain rfl := Option.some.inj ee; rw [HV9.out] at hd0 hd1 hd2; simp only at hd0 hd1 hd2)
            go_roundw
            case rel => exact ⟨k + 1, by omega, by go_num, by rw [HKS.out, iv_app]; exact hown3, v_int (by rw [HLS.out]; rw [if_pos hy0]; omega), v_int (by rw [HHS.out]; rw [if_pos hy0]; omega), v_int (by rw [HSS.out]), v_int (by rw [HCC.out]), HI0.out.wide (hbw3.mono HBW.out), HI1.out.wide hbw3⟩
            case measure => simp [intOf]; omega
        · skip
          by_cases hh9 : hi < v0
          · skip
            go_wp2_with (at_builtin; refine wpList_app wb rfl (.tmp 42) (.tmp 44) 43 rfl wB.heap.size 3 i0 (.int .i64 0) 1 8 Try.underlying43 hi0 hz0 hz1 hz2 rfl Nat.one_pos (.slice A1 k c1) k (iv (kL yf k)) rfl HO3.out 1 #[.int .i64 y] rfl rfl F1.out f12 f13 hBz ?_; intro v9 w3 hown3 hbw3; obtain ⟨A3, c3, rfl⟩ := own_shape_i hown3; have hcl := (HRB.out.in_ (HI1.out.wide hbw3)).2 k hlt; obtain ⟨ad3, ee, hd0, hd1, hd2⟩ := hcl; obtain rfl := Option.some.inj ee; rw [HV9.out] at hd0 hd1 hd2; simp only at hd0 hd1 hd2)
            go_roundw
            case rel => exact ⟨k + 1, by omega, by go_num, by rw [HKS.out, iv_app]; exact hown3, v_int (by rw [HLS.out]; rw [if_pos hy0]; omega), v_int (by rw [HHS.out]; rw [if_pos hy0]; omega), v_int (by rw [HSS.out]), v_int (by rw [HCC.out]), HI0.out.wide (hbw3.mono HBW.out), HI1.out.wide hbw3⟩
            case measure => simp [intOf]; omega
          · skip
            go_wp2_with (at_builtin; refine wpList_app wb rfl (.tmp 42) (.tmp 44) 43 rfl wB.heap.size 3 i0 (.int .i64 0) 1 8 Try.underlying43 hi0 hz0 hz1 hz2 rfl Nat.one_pos (.slice A1 k c1) k (iv (kL yf k)) rfl HO3.out 1 #[.int .i64 y] rfl rfl F1.out f12 f13 hBz ?_; intro v9 w3 hown3 hbw3; obtain ⟨A3, c3, rfl⟩ := own_shape_i hown3; have hcl := (HRB.out.in_ (HI1.out.wide hbw3)).2 k hlt; obtain ⟨ad3, ee, hd0, hd1, hd2⟩ := hcl; obtain rfl := Option.some.inj ee; rw [HV9.out] at hd0 hd1 hd2; simp only at hd0 hd1 hd2)
            go_roundw
            case rel => exact ⟨k + 1, by omega, by go_num, by rw [HKS.out, iv_app]; exact hown3, v_int (by rw [HLS.out]; rw [if_pos hy0]; omega), v_int (by rw [HHS.out]; rw [if_pos hy0]; omega), v_int (by rw [HSS.out]), v_int (by rw [HCC.out]), HI0.out.wide (hbw3.mono HBW.out), HI1.out.wide hbw3⟩
            case measure => simp [intOf]; omega
      · skip
        go_wp2_with (at_builtin; refine wpList_app wb rfl (.tmp 42) (.tmp 44) 43 rfl wB.heap.size 3 i0 (.int .i64 0) 1 8 Try.underlying43 hi0 hz0 hz1 hz2 rfl Nat.one_pos (.slice A1 k c1) k (iv (kL yf k)) rfl HO3.out 1 #[.int .i64 y] rfl rfl F1.out f12 f13 hBz ?_; intro v9 w3 hown3 hbw3; obtain ⟨A3, c3, rfl⟩ := own_shape_i hown3; have hcl := (HRB.out.in_ (HI1.out.wide hbw3)).2 k hlt; obtain ⟨ad3, ee, hd0, hd1, hd2⟩ := hcl; obtain rfl := Option.some.inj ee; rw [HV9.out] at hd0 hd1 hd2; simp only at hd0 hd1 hd2)
        go_roundw
        case rel => exact ⟨k + 1, by omega, by go_num, by rw [HKS.out, iv_app]; exact hown3, v_int (by rw [HLS.out]; rw [if_neg (by omega)]), v_int (by rw [HHS.out]; rw [if_neg (by omega)]), v_int (by rw [HSS.out]), v_int (by rw [HCC.out]), HI0.out.wide (hbw3.mono HBW.out), HI1.out.wide hbw3⟩
        case measure => simp [intOf]; omega
    · skip
      obtain rfl : k = n := by omega
      obtain ⟨wa, hq9⟩ : ∃ q, q = wr := ⟨_, rfl⟩
      subst hq9
      have r1 := HRB.out.in_ f1
      have r2 := reads_own_i hown
      have hsn := HSUM.out k (Nat.le_refl _)
      have hcn := HCST.out k (Nat.le_refl _)
      have hlh := HLH.out k (Nat.le_refl _)
      obtain ⟨eS0, eS1, eG⟩ := HES.out
      obtain ⟨SU, hSU⟩ : ∃ s, sumTo yf k = s := ⟨_, rfl⟩
      obtain ⟨CO, hCO⟩ : ∃ s, sumTo (fun i => yf i * (xs.getD i z27).f1) k = s := ⟨_, rfl⟩
      obtain ⟨LO, hLO⟩ : ∃ s, lowF xs yf k = s := ⟨_, rfl⟩
      obtain ⟨HI, hHI⟩ : ∃ s, higF xs yf k = s := ⟨_, rfl⟩
      rw [hSU] at eS0 eS1 eG hsn ⊢
      rw [hCO] at hcn HBC ⊢
      rw [hLO, hHI] at eS1 hlh
      rw [hLO, hHI]
      clear hSU hCO hLO hHI f1 hown hk hlt HLH HSUM HCST HXB HAK HYF HY HP HRB HBW
      have hk4 : (k : Int) ≤ 4 := by omega
      have hk1 : 1 ≤ (k : Int) := by omega
      have hk9 : k ≤ 4 := by omega
      go_wp2_with fail
      refine (HCS.out _ _ _ r1 r2).mono ?_
      rintro _ w201 ⟨rfl, hb201⟩
      have f201_0 : In w.heap.size w w201 := f0.step hb201
      have f201_1 : ReadsFlour w201 A k xs := r1.step hb201
      have f201_2 : ReadsI w201 A1 k (kL yf k) := r2.step hb201
      clear f0 r1 r2
      clear hb201
      by_cases hs0 : SU = 0
      · skip
        skip
        rw [eS0 hs0]
        have hsu : (SU == 0) = true := by simpa using hs0
        have hsu2 : ¬ 0 < SU := by omega
        clear eS0 eS1 eG hs0
        go_wp2_with fail
        refine (HBC.out _ _ _ f201_1 f201_2).mono ?_
        rintro _ w202 ⟨rfl, hb202⟩
        have f202_0 : In w.heap.size w w202 := f201_0.step hb202
        have f202_1 : ReadsFlour w202 A k xs := f201_1.step hb202
        have f202_2 : ReadsI w202 A1 k (kL yf k) := f201_2.step hb202
        clear f201_0 f201_1 f201_2
        clear hb202
        clear f202_2
        go_wp2_with fail
        refine (HA5.out _ f202_0).mono ?_
        rintro e w' ⟨rfl, rfl⟩
        go_wp2_with fail
        refine (HA6.out _ f202_0).mono ?_
        rintro e w' ⟨rfl, rfl⟩
        obtain ⟨T, hT⟩ : ∃ T, 1 + x5 % 20 = T := ⟨_, rfl⟩
        obtain ⟨L, hL⟩ : ∃ L, 100 + x6 = L := ⟨_, rfl⟩
        have hT1 : 1 ≤ T ∧ T ≤ 20 := by omega
        have hL1 : 100 ≤ L ∧ L ≤ 355 := by omega
        have HT := Lib.hid hT
        have HL := Lib.hid hL
        clear hT hL
        have HCT := Lib.hid (fun X (h : ReadsFlour X A k xs) => iCheapestTwo A k cp xs T L X HNM.out h)
        go_wp2_with fail
        rw [HT.out, HL.out]
        rcases two_law (T := T) (L := L) HF.out ⟨hT1.1, by omega⟩ ⟨by omega, by omega⟩ with e2 | ⟨i, q, m, c, e2, hiq, hqk, hm, eX, eXC, eZ⟩
        · skip
          have eT : twoT k xs T L = .tuple #[i64 0, i64 0, i64 0, .bool false] := by unfold twoT; rw [e2]; rfl
          rw [eT] at HCT
          clear e2 eT
          refine (HCT.out _ f202_1).mono ?_
          rintro _ w203 ⟨rfl, hb203⟩
          have f203_0 : In w.heap.size w w203 := f202_0.step hb203
          have f203_1 : ReadsFlour w203 A k xs := f202_1.step hb203
          clear f202_0 f202_1
          clear hb203
          go_wp2_with fail
          refine (HOK.out _ f203_1).mono ?_
          rintro _ w204 ⟨rfl, hb204⟩
          have f204_0 : In w.heap.size w w204 := f203_0.step hb204
          have f204_1 : ReadsFlour w204 A k xs := f203_1.step hb204
          clear f203_0 f203_1
          clear hb204
          obtain ⟨w_m, hrun, hown0, hgrow0⟩ := run_make_full (P := Try.prog) w204 w204.heap.size 43 3 i0 (.int .i64 0) 1 Try.underlying43 hi0 hz0 hz1 .i64 .i64 k (by rw [hz2]; omega) (by unfold maxLen; omega) (Nat.le_refl _)
          have hb_m : Below w204.heap.size w204 w_m := (Below.refl _ _).grown hgrow0 (Nat.le_refl _) (fun j hj => by cases hj)
          have wy_m : Ways w_m w204.heap.size k (fun _ => 0) := ways_made (by have h := hown0; rw [show (Value.int .i64 0).cells = #[Value.int .i64 0] from rfl, Nat.mul_one, toList_madeCells_one] at h; exact h)
          clear hown0 hgrow0
          go_wp2_with fail
          clear hrun
          have r9 : ReadsI w_m (some ⟨w204.heap.size, 0, none⟩) k (kL (fun _ => 0) k) := wy_m.reads
          clear wy_m
          have f205_0 : In w.heap.size w w_m := f204_0.step hb_m
          have f205_1 : ReadsFlour w_m A k xs := f204_1.step hb_m
          clear f204_0 f204_1
          clear hb_m
          refine (HBZ.out _ _ _ f205_1 r9).mono ?_
          rintro _ w206 ⟨rfl, hb206⟩
          have f206_0 : In w.heap.size w w206 := f205_0.step hb206
          have f206_1 : ReadsFlour w206 A k xs := f205_1.step hb206
          clear f205_0 f205_1
          clear hb206
          clear r9
          have s1 := reads_lflour w206 56
          have s2 := reads_ltwo (w206.alloc (.cells #[.int .i64 100, .int .i64 1, .int .i64 5, .int .i64 200, .int .i64 1, .int .i64 5] 56)) 3 1 1
          have s3 := s1.alloc (.cells #[.int .i64 1, .int .i64 1] 3)
          have i9 := (f206_0.alloc (.cells #[.int .i64 100, .int .i64 1, .int .i64 5, .int .i64 200, .int .i64 1, .int .i64 5] 56)).alloc (.cells #[.int .i64 1, .int .i64 1] 3)
          have S2 := Lib.hid s2
          have S3 := Lib.hid s3
          have I9 := Lib.hid i9
          clear s1 s2 s3 i9
          go_wp2_with fail
          refine (HLIT.out _ _ _ _ _ S3.out (by have h := S2.out; simpa using h)).mono ?_
          rintro _ w9 ⟨rfl, hb9⟩
          go_wp2
          go_ret
          exact ⟨rfl, (I9.out.step hb9).below⟩
        · skip
          have eT : twoT k xs T L = .tuple #[i64 i, i64 q, i64 m, .bool true] := by unfold twoT; rw [e2]; rfl
          rw [eT] at HCT
          clear e2 eT
          have HEZ := Lib.hid eZ
          clear eZ
          refine (HCT.out _ f202_1).mono ?_
          rintro _ w203 ⟨rfl, hb203⟩
          have f203_0 : In w.heap.size w w203 := f202_0.step hb203
          have f203_1 : ReadsFlour w203 A k xs := f202_1.step hb203
          clear f202_0 f202_1
          clear hb203
          have hqi : (q : Int) < (k : Int) := by omega
          have hi0_ : (0 : Int) ≤ (i : Int) := by omega
          have hiqi : (i : Int) < (q : Int) := by omega
          have hik : i < k := by omega
          have HXS := Lib.hid (fun B d X (h : ReadsFlour X A k xs) (r : ReadsI X B k (twoL k i q m (T - m))) => iStrengthOf A k cp xs B k d (twoL k i q m (T - m)) X HNM.out h HNM.out r)
          have HXC := Lib.hid (fun B d X (h : ReadsFlour X A k xs) (r : ReadsI X B k (twoL k i q m (T - m))) => iBlendCost A k cp xs B k d (twoL k i q m (T - m)) X HNM.out h HNM.out r)
          rw [eXC] at HXC
          obtain ⟨sx, hsx⟩ : ∃ s, strengthV k xs k (twoL k i q m (T - m)) = s := ⟨_, rfl⟩
          rw [hsx] at HXS eX
          clear hsx eXC
          go_wp2_with (at_make; refine wpList_make_full _ rfl (.tmp 152) (.tmp 152) 43 rfl w203.heap.size 3 i0 (.int .i64 0) 1 Try.underlying43 hi0 hz0 hz1 .i64 .i64 (k : Int) (k : Int) k rfl rfl rfl rfl ?h2 ?h3 ?h4 ?_)
          case h2 => rw [hz2]; omega
          case h3 => unfold maxLen; omega
          case h4 => exact Nat.le_refl _
          intro w_x hown0 hgrow0
          have hb_x : Below w203.heap.size w203 w_x := (Below.refl _ _).grown hgrow0 (Nat.le_refl _) (fun j hj => by cases hj)
          have wy_x : Ways w_x w203.heap.size k (fun _ => 0) := ways_made (by rw [toList_madeCells_one] at hown0; exact hown0)
          clear hown0 hgrow0
          have k1 := wy_x.cell i hik
          have z1 := wy_x.free i
          have wa2 : Ways (w_x.setCell ⟨w203.heap.size, i, none⟩ (.int .i64 m)) w203.heap.size k (fun u => if u = i then m else 0) := wy_x.set_ i _ _ (if_pos rfl) (fun u hu => if_neg hu) hik
          have k2 := wa2.cell q hqk
          have z2 := wa2.free q
          have hqp : (if q = i then m else 0) = 0 := if_neg (by omega)
          rw [hqp] at k2
          clear hqp
          have wa3 : Ways ((w_x.setCell ⟨w203.heap.size, i, none⟩ (.int .i64 m)).setCell ⟨w203.heap.size, q, none⟩ (.int .i64 (T - m))) w203.heap.size k (twoF i q m (T - m)) := wa2.set_ q _ _ (twoF_q hiq) (fun u hu => twoF_step hu) hqk
          have hb3 : Below w203.heap.size w203 ((w_x.setCell ⟨w203.heap.size, i, none⟩ (.int .i64 m)).setCell ⟨w203.heap.size, q, none⟩ (.int .i64 (T - m))) := (hb_x.setCell (p := ⟨w203.heap.size, i, none⟩) (Nat.le_refl _) _).setCell (p := ⟨w203.heap.size, q, none⟩) (Nat.le_refl _) _
          have HR3 := Lib.hid wa3.reads
          have HB3 := Lib.hid hb3
          clear wa2 wa3 hb3 wy_x hb_x
          go_wp2_with fail
          obtain ⟨w3_x, hq9⟩ : ∃ W9, W9 = ((w_x.setCell ⟨w203.heap.size, i, none⟩ (.int .i64 m)).setCell ⟨w203.heap.size, q, none⟩ (.int .i64 (T - m))) := ⟨_, rfl⟩
          rw [← hq9] at HR3 HB3 ⊢
          clear hq9 k1 z1 k2 z2
          have hb9 := HB3.out
          have r9 := HR3.out
          clear HR3 HB3
          have f204_0 : In w.heap.size w w3_x := f203_0.step hb9
          have f204_1 : ReadsFlour w3_x A k xs := f203_1.step hb9
          clear f203_0 f203_1
          clear hb9
          obtain ⟨gx, hg9⟩ : ∃ g9, g9 = w203.heap.size := ⟨_, rfl⟩
          rw [← hg9] at r9 ⊢
          clear hg9
          refine (HXS.out _ _ _ f204_1 r9).mono ?_
          rintro _ w205 ⟨rfl, hb205⟩
          have f205_0 : In w.heap.size w w205 := f204_0.step hb205
          have f205_1 : ReadsFlour w205 A k xs := f204_1.step hb205
          have f205_2 : ReadsI w205 (some ⟨gx, 0, none⟩) k (twoL k i q m (T - m)) := r9.step hb205
          clear f204_0 f204_1 r9
          clear hb205
          go_wp2_with (at_make; refine wpList_make_full _ rfl (.tmp 170) (.tmp 170) 43 rfl w205.heap.size 3 i0 (.int .i64 0) 1 Try.underlying43 hi0 hz0 hz1 .i64 .i64 (k : Int) (k : Int) k rfl rfl rfl rfl ?h2 ?h3 ?h4 ?_)
          case h2 => rw [hz2]; omega
          case h3 => unfold maxLen; omega
          case h4 => exact Nat.le_refl _
          intro w_z hown0 hgrow0
          have hb_z : Below w205.heap.size w205 w_z := (Below.refl _ _).grown hgrow0 (Nat.le_refl _) (fun j hj => by cases hj)
          have wy_z : Ways w_z w205.heap.size k (fun _ => 0) := ways_made (by rw [toList_madeCells_one] at hown0; exact hown0)
          clear hown0 hgrow0
          have j0 : In w.heap.size w w_z := f205_0.step hb_z
          obtain ⟨zz, hzz⟩ : ∃ z, x7 % (T + 1) = z := ⟨_, rfl⟩
          have hz9 : 0 ≤ zz ∧ zz ≤ T := by
            have h1 := Int.emod_nonneg x7 (b := T + 1) (by omega)
            have h2 := Int.emod_lt_of_pos x7 (b := T + 1) (by omega)
            omega
          have HZZ := Lib.hid hzz
          clear hzz
          go_wp2_with fail
          refine (HA7.out _ j0).mono ?_
          rintro e w' ⟨rfl, rfl⟩
          clear j0
          have k1 := wy_z.cell i hik
          have z1 := wy_z.free i
          have wa2 : Ways (w_z.setCell ⟨w205.heap.size, i, none⟩ (.int .i64 zz)) w205.heap.size k (fun u => if u = i then zz else 0) := wy_z.set_ i _ _ (if_pos rfl) (fun u hu => if_neg hu) hik
          have k2 := wa2.cell q hqk
          have z2 := wa2.free q
          have hqp : (if q = i then zz else 0) = 0 := if_neg (by omega)
          rw [hqp] at k2
          clear hqp
          have wa3 : Ways ((w_z.setCell ⟨w205.heap.size, i, none⟩ (.int .i64 zz)).setCell ⟨w205.heap.size, q, none⟩ (.int .i64 (T - zz))) w205.heap.size k (twoF i q zz (T - zz)) := wa2.set_ q _ _ (twoF_q hiq) (fun u hu => twoF_step hu) hqk
          have hb3 : Below w205.heap.size w205 ((w_z.setCell ⟨w205.heap.size, i, none⟩ (.int .i64 zz)).setCell ⟨w205.heap.size, q, none⟩ (.int .i64 (T - zz))) := (hb_z.setCell (p := ⟨w205.heap.size, i, none⟩) (Nat.le_refl _) _).setCell (p := ⟨w205.heap.size, q, none⟩) (Nat.le_refl _) _
          have HR3 := Lib.hid wa3.reads
          have HB3 := Lib.hid hb3
          clear wa2 wa3 hb3 wy_z hb_z
          have u1 : wrap64 (T + 1) = T + 1 := w64 ⟨by omega, by omega⟩
          have u2 : x7.tmod (T + 1) = zz := by rw [Int.tmod_eq_emod_of_nonneg h7.1, HZZ.out]
          have u3 : x7 % (T + 1) = zz := HZZ.out
          go_wp2_with fail
          clear u1 u2 u3
          obtain ⟨w3_z, hq9⟩ : ∃ W9, W9 = ((w_z.setCell ⟨w205.heap.size, i, none⟩ (.int .i64 zz)).setCell ⟨w205.heap.size, q, none⟩ (.int .i64 (T - zz))) := ⟨_, rfl⟩
          rw [← hq9] at HR3 HB3 ⊢
          clear hq9 k1 z1 k2 z2
          have hb9 := HB3.out
          have r9 := HR3.out
          clear HR3 HB3
          have f206_0 : In w.heap.size w w3_z := f205_0.step hb9
          have f206_1 : ReadsFlour w3_z A k xs := f205_1.step hb9
          have f206_2 : ReadsI w3_z (some ⟨gx, 0, none⟩) k (twoL k i q m (T - m)) := f205_2.step hb9
          clear f205_0 f205_1 f205_2
          clear hb9
          obtain ⟨gz, hg9⟩ : ∃ g9, g9 = w205.heap.size := ⟨_, rfl⟩
          rw [← hg9] at r9 ⊢
          clear hg9
          have HZS := Lib.hid (fun B d X (h : ReadsFlour X A k xs) (r : ReadsI X B k (twoL k i q zz (T - zz))) => iStrengthOf A k cp xs B k d (twoL k i q zz (T - zz)) X HNM.out h HNM.out r)
          have HZC := Lib.hid (fun B d X (h : ReadsFlour X A k xs) (r : ReadsI X B k (twoL k i q zz (T - zz))) => iBlendCost A k cp xs B k d (twoL k i q zz (T - zz)) X HNM.out h HNM.out r)
          have hEZ := HEZ.out zz hz9.1 hz9.2
          obtain ⟨sz, hsz⟩ : ∃ s, strengthV k xs k (twoL k i q zz (T - zz)) = s := ⟨_, rfl⟩
          obtain ⟨cz, hcz⟩ : ∃ s, costV27 k xs k (twoL k i q zz (T - zz)) = s := ⟨_, rfl⟩
          rw [hsz] at HZS hEZ
          rw [hcz] at HZC hEZ
          clear hsz hcz HEZ
          refine (HZS.out _ _ _ f206_1 r9).mono ?_
          rintro _ w207 ⟨rfl, hb207⟩
          have f207_0 : In w.heap.size w w207 := f206_0.step hb207
          have f207_1 : ReadsFlour w207 A k xs := f206_1.step hb207
          have f207_2 : ReadsI w207 (some ⟨gx, 0, none⟩) k (twoL k i q m (T - m)) := f206_2.step hb207
          have f207_3 : ReadsI w207 (some ⟨gz, 0, none⟩) k (twoL k i q zz (T - zz)) := r9.step hb207
          clear f206_0 f206_1 f206_2 r9
          clear hb207
          by_cases hsl : sz < L
          · skip
            clear hEZ
            go_wp2_with fail
            refine (HOK.out _ f207_1).mono ?_
            rintro _ w208 ⟨rfl, hb208⟩
            have f208_0 : In w.heap.size w w208 := f207_0.step hb208
            have f208_1 : ReadsFlour w208 A k xs := f207_1.step hb208
            have f208_2 : ReadsI w208 (some ⟨gx, 0, none⟩) k (twoL k i q m (T - m)) := f207_2.step hb208
            have f208_3 : ReadsI w208 (some ⟨gz, 0, none⟩) k (twoL k i q zz (T - zz)) := f207_3.step hb208
            clear f207_0 f207_1 f207_2 f207_3
            clear hb208
            obtain ⟨w_m, hrun, hown0, hgrow0⟩ := run_make_full (P := Try.prog) w208 w208.heap.size 43 3 i0 (.int .i64 0) 1 Try.underlying43 hi0 hz0 hz1 .i64 .i64 k (by rw [hz2]; omega) (by unfold maxLen; omega) (Nat.le_refl _)
            have hb_m : Below w208.heap.size w208 w_m := (Below.refl _ _).grown hgrow0 (Nat.le_refl _) (fun j hj => by cases hj)
            have wy_m : Ways w_m w208.heap.size k (fun _ => 0) := ways_made (by have h := hown0; rw [show (Value.int .i64 0).cells = #[Value.int .i64 0] from rfl, Nat.mul_one, toList_madeCells_one] at h; exact h)
            clear hown0 hgrow0
            go_wp2_with fail
            clear hrun
            have r9 : ReadsI w_m (some ⟨w208.heap.size, 0, none⟩) k (kL (fun _ => 0) k) := wy_m.reads
            clear wy_m
            have f209_0 : In w.heap.size w w_m := f208_0.step hb_m
            have f209_1 : ReadsFlour w_m A k xs := f208_1.step hb_m
            have f209_2 : ReadsI w_m (some ⟨gx, 0, none⟩) k (twoL k i q m (T - m)) := f208_2.step hb_m
            have f209_3 : ReadsI w_m (some ⟨gz, 0, none⟩) k (twoL k i q zz (T - zz)) := f208_3.step hb_m
            clear f208_0 f208_1 f208_2 f208_3
            clear hb_m
            refine (HBZ.out _ _ _ f209_1 r9).mono ?_
            rintro _ w210 ⟨rfl, hb210⟩
            have f210_0 : In w.heap.size w w210 := f209_0.step hb210
            have f210_1 : ReadsFlour w210 A k xs := f209_1.step hb210
            have f210_2 : ReadsI w210 (some ⟨gx, 0, none⟩) k (twoL k i q m (T - m)) := f209_2.step hb210
            have f210_3 : ReadsI w210 (some ⟨gz, 0, none⟩) k (twoL k i q zz (T - zz)) := f209_3.step hb210
            clear f209_0 f209_1 f209_2 f209_3
            clear hb210
            clear r9
            have s1 := reads_lflour w210 56
            have s2 := reads_ltwo (w210.alloc (.cells #[.int .i64 100, .int .i64 1, .int .i64 5, .int .i64 200, .int .i64 1, .int .i64 5] 56)) 3 1 1
            have s3 := s1.alloc (.cells #[.int .i64 1, .int .i64 1] 3)
            have i9 := (f210_0.alloc (.cells #[.int .i64 100, .int .i64 1, .int .i64 5, .int .i64 200, .int .i64 1, .int .i64 5] 56)).alloc (.cells #[.int .i64 1, .int .i64 1] 3)
            have S2 := Lib.hid s2
            have S3 := Lib.hid s3
            have I9 := Lib.hid i9
            clear s1 s2 s3 i9
            go_wp2_with fail
            refine (HLIT.out _ _ _ _ _ S3.out (by have h := S2.out; simpa using h)).mono ?_
            rintro _ w9 ⟨rfl, hb9⟩
            go_wp2
            go_ret
            exact ⟨rfl, (I9.out.step hb9).below⟩
          · skip
            have hcz := hEZ (by omega)
            clear hEZ
            go_wp2_with fail
            refine (HZC.out _ _ _ f207_1 f207_3).mono ?_
            rintro _ w208 ⟨rfl, hb208⟩
            have f208_0 : In w.heap.size w w208 := f207_0.step hb208
            have f208_1 : ReadsFlour w208 A k xs := f207_1.step hb208
            have f208_2 : ReadsI w208 (some ⟨gx, 0, none⟩) k (twoL k i q m (T - m)) := f207_2.step hb208
            have f208_3 : ReadsI w208 (some ⟨gz, 0, none⟩) k (twoL k i q zz (T - zz)) := f207_3.step hb208
            clear f207_0 f207_1 f207_2 f207_3
            clear hb208
            go_wp2_with fail
            refine (HXC.out _ _ _ f208_1 f208_2).mono ?_
            rintro _ w209 ⟨rfl, hb209⟩
            have f209_0 : In w.heap.size w w209 := f208_0.step hb209
            have f209_1 : ReadsFlour w209 A k xs := f208_1.step hb209
            have f209_2 : ReadsI w209 (some ⟨gx, 0, none⟩) k (twoL k i q m (T - m)) := f208_2.step hb209
            have f209_3 : ReadsI w209 (some ⟨gz, 0, none⟩) k (twoL k i q zz (T - zz)) := f208_3.step hb209
            clear f208_0 f208_1 f208_2 f208_3
            clear hb209
            go_wp2_with fail
            refine (HOK.out _ f209_1).mono ?_
            rintro _ w210 ⟨rfl, hb210⟩
            have f210_0 : In w.heap.size w w210 := f209_0.step hb210
            have f210_1 : ReadsFlour w210 A k xs := f209_1.step hb210
            have f210_2 : ReadsI w210 (some ⟨gx, 0, none⟩) k (twoL k i q m (T - m)) := f209_2.step hb210
            have f210_3 : ReadsI w210 (some ⟨gz, 0, none⟩) k (twoL k i q zz (T - zz)) := f209_3.step hb210
            clear f209_0 f209_1 f209_2 f209_3
            clear hb210
            obtain ⟨w_m, hrun, hown0, hgrow0⟩ := run_make_full (P := Try.prog) w210 w210.heap.size 43 3 i0 (.int .i64 0) 1 Try.underlying43 hi0 hz0 hz1 .i64 .i64 k (by rw [hz2]; omega) (by unfold maxLen; omega) (Nat.le_refl _)
            have hb_m : Below w210.heap.size w210 w_m := (Below.refl _ _).grown hgrow0 (Nat.le_refl _) (fun j hj => by cases hj)
            have wy_m : Ways w_m w210.heap.size k (fun _ => 0) := ways_made (by have h := hown0; rw [show (Value.int .i64 0).cells = #[Value.int .i64 0] from rfl, Nat.mul_one, toList_madeCells_one] at h; exact h)
            clear hown0 hgrow0
            go_wp2_with fail
            clear hrun
            have r9 : ReadsI w_m (some ⟨w210.heap.size, 0, none⟩) k (kL (fun _ => 0) k) := wy_m.reads
            clear wy_m
            have f211_0 : In w.heap.size w w_m := f210_0.step hb_m
            have f211_1 : ReadsFlour w_m A k xs := f210_1.step hb_m
            have f211_2 : ReadsI w_m (some ⟨gx, 0, none⟩) k (twoL k i q m (T - m)) := f210_2.step hb_m
            have f211_3 : ReadsI w_m (some ⟨gz, 0, none⟩) k (twoL k i q zz (T - zz)) := f210_3.step hb_m
            clear f210_0 f210_1 f210_2 f210_3
            clear hb_m
            refine (HBZ.out _ _ _ f211_1 r9).mono ?_
            rintro _ w212 ⟨rfl, hb212⟩
            have f212_0 : In w.heap.size w w212 := f211_0.step hb212
            have f212_1 : ReadsFlour w212 A k xs := f211_1.step hb212
            have f212_2 : ReadsI w212 (some ⟨gx, 0, none⟩) k (twoL k i q m (T - m)) := f211_2.step hb212
            have f212_3 : ReadsI w212 (some ⟨gz, 0, none⟩) k (twoL k i q zz (T - zz)) := f211_3.step hb212
            clear f211_0 f211_1 f211_2 f211_3
            clear hb212
            clear r9
            have s1 := reads_lflour w212 56
            have s2 := reads_ltwo (w212.alloc (.cells #[.int .i64 100, .int .i64 1, .int .i64 5, .int .i64 200, .int .i64 1, .int .i64 5] 56)) 3 1 1
            have s3 := s1.alloc (.cells #[.int .i64 1, .int .i64 1] 3)
            have i9 := (f212_0.alloc (.cells #[.int .i64 100, .int .i64 1, .int .i64 5, .int .i64 200, .int .i64 1, .int .i64 5] 56)).alloc (.cells #[.int .i64 1, .int .i64 1] 3)
            have S2 := Lib.hid s2
            have S3 := Lib.hid s3
            have I9 := Lib.hid i9
            clear s1 s2 s3 i9
            go_wp2_with fail
            refine (HLIT.out _ _ _ _ _ S3.out (by have h := S2.out; simpa using h)).mono ?_
            rintro _ w9 ⟨rfl, hb9⟩
            go_wp2
            go_ret
            exact ⟨rfl, (I9.out.step hb9).below⟩
      · skip
        skip
        obtain ⟨s, es, s1, s2, s3⟩ := eS1 (by omega)
        have eg := eG (by omega) (by omega)
        rw [es] at eg ⊢
        have hsu : (SU == 0) = false := by simpa using hs0
        have hsm : (s == -1) = false := by simp; omega
        have hsu2 : 0 < SU := by omega
        obtain ⟨st, hst⟩ : ∃ st, stgV k xs SU = st := ⟨_, rfl⟩
        have HSF9 := Lib.hid (fun X (h : ReadsFlour X A k xs) => HSF.out SU X h)
        rw [hst] at eg HSF9
        clear eS0 eS1 eG hs0 es hst
        go_wp2_with fail
        refine (HBC.out _ _ _ f201_1 f201_2).mono ?_
        rintro _ w202 ⟨rfl, hb202⟩
        have f202_0 : In w.heap.size w w202 := f201_0.step hb202
        have f202_1 : ReadsFlour w202 A k xs := f201_1.step hb202
        have f202_2 : ReadsI w202 A1 k (kL yf k) := f201_2.step hb202
        clear f201_0 f201_1 f201_2
        clear hb202
        go_wp2_with fail
        refine (HSF9.out _ f202_1).mono ?_
        rintro _ w203 ⟨rfl, hb203⟩
        have f203_0 : In w.heap.size w w203 := f202_0.step hb203
        have f203_1 : ReadsFlour w203 A k xs := f202_1.step hb203
        have f203_2 : ReadsI w203 A1 k (kL yf k) := f202_2.step hb203
        clear f202_0 f202_1 f202_2
        clear hb203
        clear f203_2
        go_wp2_with fail
        refine (HA5.out _ f203_0).mono ?_
        rintro e w' ⟨rfl, rfl⟩
        go_wp2_with fail
        refine (HA6.out _ f203_0).mono ?_
        rintro e w' ⟨rfl, rfl⟩
        obtain ⟨T, hT⟩ : ∃ T, 1 + x5 % 20 = T := ⟨_, rfl⟩
        obtain ⟨L, hL⟩ : ∃ L, 100 + x6 = L := ⟨_, rfl⟩
        have hT1 : 1 ≤ T ∧ T ≤ 20 := by omega
        have hL1 : 100 ≤ L ∧ L ≤ 355 := by omega
        have HT := Lib.hid hT
        have HL := Lib.hid hL
        clear hT hL
        have HCT := Lib.hid (fun X (h : ReadsFlour X A k xs) => iCheapestTwo A k cp xs T L X HNM.out h)
        go_wp2_with fail
        rw [HT.out, HL.out]
        rcases two_law (T := T) (L := L) HF.out ⟨hT1.1, by omega⟩ ⟨by omega, by omega⟩ with e2 | ⟨i, q, m, c, e2, hiq, hqk, hm, eX, eXC, eZ⟩
        · skip
          have eT : twoT k xs T L = .tuple #[i64 0, i64 0, i64 0, .bool false] := by unfold twoT; rw [e2]; rfl
          rw [eT] at HCT
          clear e2 eT
          refine (HCT.out _ f203_1).mono ?_
          rintro _ w204 ⟨rfl, hb204⟩
          have f204_0 : In w.heap.size w w204 := f203_0.step hb204
          have f204_1 : ReadsFlour w204 A k xs := f203_1.step hb204
          clear f203_0 f203_1
          clear hb204
          go_wp2_with fail
          refine (HOK.out _ f204_1).mono ?_
          rintro _ w205 ⟨rfl, hb205⟩
          have f205_0 : In w.heap.size w w205 := f204_0.step hb205
          have f205_1 : ReadsFlour w205 A k xs := f204_1.step hb205
          clear f204_0 f204_1
          clear hb205
          obtain ⟨w_m, hrun, hown0, hgrow0⟩ := run_make_full (P := Try.prog) w205 w205.heap.size 43 3 i0 (.int .i64 0) 1 Try.underlying43 hi0 hz0 hz1 .i64 .i64 k (by rw [hz2]; omega) (by unfold maxLen; omega) (Nat.le_refl _)
          have hb_m : Below w205.heap.size w205 w_m := (Below.refl _ _).grown hgrow0 (Nat.le_refl _) (fun j hj => by cases hj)
          have wy_m : Ways w_m w205.heap.size k (fun _ => 0) := ways_made (by have h := hown0; rw [show (Value.int .i64 0).cells = #[Value.int .i64 0] from rfl, Nat.mul_one, toList_madeCells_one] at h; exact h)
          clear hown0 hgrow0
          go_wp2_with fail
          clear hrun
          have r9 : ReadsI w_m (some ⟨w205.heap.size, 0, none⟩) k (kL (fun _ => 0) k) := wy_m.reads
          clear wy_m
          have f206_0 : In w.heap.size w w_m := f205_0.step hb_m
          have f206_1 : ReadsFlour w_m A k xs := f205_1.step hb_m
          clear f205_0 f205_1
          clear hb_m
          refine (HBZ.out _ _ _ f206_1 r9).mono ?_
          rintro _ w207 ⟨rfl, hb207⟩
          have f207_0 : In w.heap.size w w207 := f206_0.step hb207
          have f207_1 : ReadsFlour w207 A k xs := f206_1.step hb207
          clear f206_0 f206_1
          clear hb207
          clear r9
          have s1 := reads_lflour w207 56
          have s2 := reads_ltwo (w207.alloc (.cells #[.int .i64 100, .int .i64 1, .int .i64 5, .int .i64 200, .int .i64 1, .int .i64 5] 56)) 3 1 1
          have s3 := s1.alloc (.cells #[.int .i64 1, .int .i64 1] 3)
          have i9 := (f207_0.alloc (.cells #[.int .i64 100, .int .i64 1, .int .i64 5, .int .i64 200, .int .i64 1, .int .i64 5] 56)).alloc (.cells #[.int .i64 1, .int .i64 1] 3)
          have S2 := Lib.hid s2
          have S3 := Lib.hid s3
          have I9 := Lib.hid i9
          clear s1 s2 s3 i9
          go_wp2_with fail
          refine (HLIT.out _ _ _ _ _ S3.out (by have h := S2.out; simpa using h)).mono ?_
          rintro _ w9 ⟨rfl, hb9⟩
          go_wp2
          go_ret
          exact ⟨rfl, (I9.out.step hb9).below⟩
        · skip
          have eT : twoT k xs T L = .tuple #[i64 i, i64 q, i64 m, .bool true] := by unfold twoT; rw [e2]; rfl
          rw [eT] at HCT
          clear e2 eT
          have HEZ := Lib.hid eZ
          clear eZ
          refine (HCT.out _ f203_1).mono ?_
          rintro _ w204 ⟨rfl, hb204⟩
          have f204_0 : In w.heap.size w w204 := f203_0.step hb204
          have f204_1 : ReadsFlour w204 A k xs := f203_1.step hb204
          clear f203_0 f203_1
          clear hb204
          have hqi : (q : Int) < (k : Int) := by omega
          have hi0_ : (0 : Int) ≤ (i : Int) := by omega
          have hiqi : (i : Int) < (q : Int) := by omega
          have hik : i < k := by omega
          have HXS := Lib.hid (fun B d X (h : ReadsFlour X A k xs) (r : ReadsI X B k (twoL k i q m (T - m))) => iStrengthOf A k cp xs B k d (twoL k i q m (T - m)) X HNM.out h HNM.out r)
          have HXC := Lib.hid (fun B d X (h : ReadsFlour X A k xs) (r : ReadsI X B k (twoL k i q m (T - m))) => iBlendCost A k cp xs B k d (twoL k i q m (T - m)) X HNM.out h HNM.out r)
          rw [eXC] at HXC
          obtain ⟨sx, hsx⟩ : ∃ s, strengthV k xs k (twoL k i q m (T - m)) = s := ⟨_, rfl⟩
          rw [hsx] at HXS eX
          clear hsx eXC
          go_wp2_with (at_make; refine wpList_make_full _ rfl (.tmp 152) (.tmp 152) 43 rfl w204.heap.size 3 i0 (.int .i64 0) 1 Try.underlying43 hi0 hz0 hz1 .i64 .i64 (k : Int) (k : Int) k rfl rfl rfl rfl ?h2 ?h3 ?h4 ?_)
          case h2 => rw [hz2]; omega
          case h3 => unfold maxLen; omega
          case h4 => exact Nat.le_refl _
          intro w_x hown0 hgrow0
          have hb_x : Below w204.heap.size w204 w_x := (Below.refl _ _).grown hgrow0 (Nat.le_refl _) (fun j hj => by cases hj)
          have wy_x : Ways w_x w204.heap.size k (fun _ => 0) := ways_made (by rw [toList_madeCells_one] at hown0; exact hown0)
          clear hown0 hgrow0
          have k1 := wy_x.cell i hik
          have z1 := wy_x.free i
          have wa2 : Ways (w_x.setCell ⟨w204.heap.size, i, none⟩ (.int .i64 m)) w204.heap.size k (fun u => if u = i then m else 0) := wy_x.set_ i _ _ (if_pos rfl) (fun u hu => if_neg hu) hik
          have k2 := wa2.cell q hqk
          have z2 := wa2.free q
          have hqp : (if q = i then m else 0) = 0 := if_neg (by omega)
          rw [hqp] at k2
          clear hqp
          have wa3 : Ways ((w_x.setCell ⟨w204.heap.size, i, none⟩ (.int .i64 m)).setCell ⟨w204.heap.size, q, none⟩ (.int .i64 (T - m))) w204.heap.size k (twoF i q m (T - m)) := wa2.set_ q _ _ (twoF_q hiq) (fun u hu => twoF_step hu) hqk
          have hb3 : Below w204.heap.size w204 ((w_x.setCell ⟨w204.heap.size, i, none⟩ (.int .i64 m)).setCell ⟨w204.heap.size, q, none⟩ (.int .i64 (T - m))) := (hb_x.setCell (p := ⟨w204.heap.size, i, none⟩) (Nat.le_refl _) _).setCell (p := ⟨w204.heap.size, q, none⟩) (Nat.le_refl _) _
          have HR3 := Lib.hid wa3.reads
          have HB3 := Lib.hid hb3
          clear wa2 wa3 hb3 wy_x hb_x
          go_wp2_with fail
          obtain ⟨w3_x, hq9⟩ : ∃ W9, W9 = ((w_x.setCell ⟨w204.heap.size, i, none⟩ (.int .i64 m)).setCell ⟨w204.heap.size, q, none⟩ (.int .i64 (T - m))) := ⟨_, rfl⟩
          rw [← hq9] at HR3 HB3 ⊢
          clear hq9 k1 z1 k2 z2
          have hb9 := HB3.out
          have r9 := HR3.out
          clear HR3 HB3
          have f205_0 : In w.heap.size w w3_x := f204_0.step hb9
          have f205_1 : ReadsFlour w3_x A k xs := f204_1.step hb9
          clear f204_0 f204_1
          clear hb9
          obtain ⟨gx, hg9⟩ : ∃ g9, g9 = w204.heap.size := ⟨_, rfl⟩
          rw [← hg9] at r9 ⊢
          clear hg9
          refine (HXS.out _ _ _ f205_1 r9).mono ?_
          rintro _ w206 ⟨rfl, hb206⟩
          have f206_0 : In w.heap.size w w206 := f205_0.step hb206
          have f206_1 : ReadsFlour w206 A k xs := f205_1.step hb206
          have f206_2 : ReadsI w206 (some ⟨gx, 0, none⟩) k (twoL k i q m (T - m)) := r9.step hb206
          clear f205_0 f205_1 r9
          clear hb206
          go_wp2_with (at_make; refine wpList_make_full _ rfl (.tmp 170) (.tmp 170) 43 rfl w206.heap.size 3 i0 (.int .i64 0) 1 Try.underlying43 hi0 hz0 hz1 .i64 .i64 (k : Int) (k : Int) k rfl rfl rfl rfl ?h2 ?h3 ?h4 ?_)
          case h2 => rw [hz2]; omega
          case h3 => unfold maxLen; omega
          case h4 => exact Nat.le_refl _
          intro w_z hown0 hgrow0
          have hb_z : Below w206.heap.size w206 w_z := (Below.refl _ _).grown hgrow0 (Nat.le_refl _) (fun j hj => by cases hj)
          have wy_z : Ways w_z w206.heap.size k (fun _ => 0) := ways_made (by rw [toList_madeCells_one] at hown0; exact hown0)
          clear hown0 hgrow0
          have j0 : In w.heap.size w w_z := f206_0.step hb_z
          obtain ⟨zz, hzz⟩ : ∃ z, x7 % (T + 1) = z := ⟨_, rfl⟩
          have hz9 : 0 ≤ zz ∧ zz ≤ T := by
            have h1 := Int.emod_nonneg x7 (b := T + 1) (by omega)
            have h2 := Int.emod_lt_of_pos x7 (b := T + 1) (by omega)
            omega
          have HZZ := Lib.hid hzz
          clear hzz
          go_wp2_with fail
          refine (HA7.out _ j0).mono ?_
          rintro e w' ⟨rfl, rfl⟩
          clear j0
          have k1 := wy_z.cell i hik
          have z1 := wy_z.free i
          have wa2 : Ways (w_z.setCell ⟨w206.heap.size, i, none⟩ (.int .i64 zz)) w206.heap.size k (fun u => if u = i then zz else 0) := wy_z.set_ i _ _ (if_pos rfl) (fun u hu => if_neg hu) hik
          have k2 := wa2.cell q hqk
          have z2 := wa2.free q
          have hqp : (if q = i then zz else 0) = 0 := if_neg (by omega)
          rw [hqp] at k2
          clear hqp
          have wa3 : Ways ((w_z.setCell ⟨w206.heap.size, i, none⟩ (.int .i64 zz)).setCell ⟨w206.heap.size, q, none⟩ (.int .i64 (T - zz))) w206.heap.size k (twoF i q zz (T - zz)) := wa2.set_ q _ _ (twoF_q hiq) (fun u hu => twoF_step hu) hqk
          have hb3 : Below w206.heap.size w206 ((w_z.setCell ⟨w206.heap.size, i, none⟩ (.int .i64 zz)).setCell ⟨w206.heap.size, q, none⟩ (.int .i64 (T - zz))) := (hb_z.setCell (p := ⟨w206.heap.size, i, none⟩) (Nat.le_refl _) _).setCell (p := ⟨w206.heap.size, q, none⟩) (Nat.le_refl _) _
          have HR3 := Lib.hid wa3.reads
          have HB3 := Lib.hid hb3
          clear wa2 wa3 hb3 wy_z hb_z
          have u1 : wrap64 (T + 1) = T + 1 := w64 ⟨by omega, by omega⟩
          have u2 : x7.tmod (T + 1) = zz := by rw [Int.tmod_eq_emod_of_nonneg h7.1, HZZ.out]
          have u3 : x7 % (T + 1) = zz := HZZ.out
          go_wp2_with fail
          clear u1 u2 u3
          obtain ⟨w3_z, hq9⟩ : ∃ W9, W9 = ((w_z.setCell ⟨w206.heap.size, i, none⟩ (.int .i64 zz)).setCell ⟨w206.heap.size, q, none⟩ (.int .i64 (T - zz))) := ⟨_, rfl⟩
          rw [← hq9] at HR3 HB3 ⊢
          clear hq9 k1 z1 k2 z2
          have hb9 := HB3.out
          have r9 := HR3.out
          clear HR3 HB3
          have f207_0 : In w.heap.size w w3_z := f206_0.step hb9
          have f207_1 : ReadsFlour w3_z A k xs := f206_1.step hb9
          have f207_2 : ReadsI w3_z (some ⟨gx, 0, none⟩) k (twoL k i q m (T - m)) := f206_2.step hb9
          clear f206_0 f206_1 f206_2
          clear hb9
          obtain ⟨gz, hg9⟩ : ∃ g9, g9 = w206.heap.size := ⟨_, rfl⟩
          rw [← hg9] at r9 ⊢
          clear hg9
          have HZS := Lib.hid (fun B d X (h : ReadsFlour X A k xs) (r : ReadsI X B k (twoL k i q zz (T - zz))) => iStrengthOf A k cp xs B k d (twoL k i q zz (T - zz)) X HNM.out h HNM.out r)
          have HZC := Lib.hid (fun B d X (h : ReadsFlour X A k xs) (r : ReadsI X B k (twoL k i q zz (T - zz))) => iBlendCost A k cp xs B k d (twoL k i q zz (T - zz)) X HNM.out h HNM.out r)
          have hEZ := HEZ.out zz hz9.1 hz9.2
          obtain ⟨sz, hsz⟩ : ∃ s, strengthV k xs k (twoL k i q zz (T - zz)) = s := ⟨_, rfl⟩
          obtain ⟨cz, hcz⟩ : ∃ s, costV27 k xs k (twoL k i q zz (T - zz)) = s := ⟨_, rfl⟩
          rw [hsz] at HZS hEZ
          rw [hcz] at HZC hEZ
          clear hsz hcz HEZ
          refine (HZS.out _ _ _ f207_1 r9).mono ?_
          rintro _ w208 ⟨rfl, hb208⟩
          have f208_0 : In w.heap.size w w208 := f207_0.step hb208
          have f208_1 : ReadsFlour w208 A k xs := f207_1.step hb208
          have f208_2 : ReadsI w208 (some ⟨gx, 0, none⟩) k (twoL k i q m (T - m)) := f207_2.step hb208
          have f208_3 : ReadsI w208 (some ⟨gz, 0, none⟩) k (twoL k i q zz (T - zz)) := r9.step hb208
          clear f207_0 f207_1 f207_2 r9
          clear hb208
          by_cases hsl : sz < L
          · skip
            clear hEZ
            go_wp2_with fail
            refine (HOK.out _ f208_1).mono ?_
            rintro _ w209 ⟨rfl, hb209⟩
            have f209_0 : In w.heap.size w w209 := f208_0.step hb209
            have f209_1 : ReadsFlour w209 A k xs := f208_1.step hb209
            have f209_2 : ReadsI w209 (some ⟨gx, 0, none⟩) k (twoL k i q m (T - m)) := f208_2.step hb209
            have f209_3 : ReadsI w209 (some ⟨gz, 0, none⟩) k (twoL k i q zz (T - zz)) := f208_3.step hb209
            clear f208_0 f208_1 f208_2 f208_3
            clear hb209
            obtain ⟨w_m, hrun, hown0, hgrow0⟩ := run_make_full (P := Try.prog) w209 w209.heap.size 43 3 i0 (.int .i64 0) 1 Try.underlying43 hi0 hz0 hz1 .i64 .i64 k (by rw [hz2]; omega) (by unfold maxLen; omega) (Nat.le_refl _)
            have hb_m : Below w209.heap.size w209 w_m := (Below.refl _ _).grown hgrow0 (Nat.le_refl _) (fun j hj => by cases hj)
            have wy_m : Ways w_m w209.heap.size k (fun _ => 0) := ways_made (by have h := hown0; rw [show (Value.int .i64 0).cells = #[Value.int .i64 0] from rfl, Nat.mul_one, toList_madeCells_one] at h; exact h)
            clear hown0 hgrow0
            go_wp2_with fail
            clear hrun
            have r9 : ReadsI w_m (some ⟨w209.heap.size, 0, none⟩) k (kL (fun _ => 0) k) := wy_m.reads
            clear wy_m
            have f210_0 : In w.heap.size w w_m := f209_0.step hb_m
            have f210_1 : ReadsFlour w_m A k xs := f209_1.step hb_m
            have f210_2 : ReadsI w_m (some ⟨gx, 0, none⟩) k (twoL k i q m (T - m)) := f209_2.step hb_m
            have f210_3 : ReadsI w_m (some ⟨gz, 0, none⟩) k (twoL k i q zz (T - zz)) := f209_3.step hb_m
            clear f209_0 f209_1 f209_2 f209_3
            clear hb_m
            refine (HBZ.out _ _ _ f210_1 r9).mono ?_
            rintro _ w211 ⟨rfl, hb211⟩
            have f211_0 : In w.heap.size w w211 := f210_0.step hb211
            have f211_1 : ReadsFlour w211 A k xs := f210_1.step hb211
            have f211_2 : ReadsI w211 (some ⟨gx, 0, none⟩) k (twoL k i q m (T - m)) := f210_2.step hb211
            have f211_3 : ReadsI w211 (some ⟨gz, 0, none⟩) k (twoL k i q zz (T - zz)) := f210_3.step hb211
            clear f210_0 f210_1 f210_2 f210_3
            clear hb211
            clear r9
            have s1 := reads_lflour w211 56
            have s2 := reads_ltwo (w211.alloc (.cells #[.int .i64 100, .int .i64 1, .int .i64 5, .int .i64 200, .int .i64 1, .int .i64 5] 56)) 3 1 1
            have s3 := s1.alloc (.cells #[.int .i64 1, .int .i64 1] 3)
            have i9 := (f211_0.alloc (.cells #[.int .i64 100, .int .i64 1, .int .i64 5, .int .i64 200, .int .i64 1, .int .i64 5] 56)).alloc (.cells #[.int .i64 1, .int .i64 1] 3)
            have S2 := Lib.hid s2
            have S3 := Lib.hid s3
            have I9 := Lib.hid i9
            clear s1 s2 s3 i9
            go_wp2_with fail
            refine (HLIT.out _ _ _ _ _ S3.out (by have h := S2.out; simpa using h)).mono ?_
            rintro _ w9 ⟨rfl, hb9⟩
            go_wp2
            go_ret
            exact ⟨rfl, (I9.out.step hb9).below⟩
          · skip
            have hcz := hEZ (by omega)
            clear hEZ
            go_wp2_with fail
            refine (HZC.out _ _ _ f208_1 f208_3).mono ?_
            rintro _ w209 ⟨rfl, hb209⟩
            have f209_0 : In w.heap.size w w209 := f208_0.step hb209
            have f209_1 : ReadsFlour w209 A k xs := f208_1.step hb209
            have f209_2 : ReadsI w209 (some ⟨gx, 0, none⟩) k (twoL k i q m (T - m)) := f208_2.step hb209
            have f209_3 : ReadsI w209 (some ⟨gz, 0, none⟩) k (twoL k i q zz (T - zz)) := f208_3.step hb209
            clear f208_0 f208_1 f208_2 f208_3
            clear hb209
            go_wp2_with fail
            refine (HXC.out _ _ _ f209_1 f209_2).mono ?_
            rintro _ w210 ⟨rfl, hb210⟩
            have f210_0 : In w.heap.size w w210 := f209_0.step hb210
            have f210_1 : ReadsFlour w210 A k xs := f209_1.step hb210
            have f210_2 : ReadsI w210 (some ⟨gx, 0, none⟩) k (twoL k i q m (T - m)) := f209_2.step hb210
            have f210_3 : ReadsI w210 (some ⟨gz, 0, none⟩) k (twoL k i q zz (T - zz)) := f209_3.step hb210
            clear f209_0 f209_1 f209_2 f209_3
            clear hb210
            go_wp2_with fail
            refine (HOK.out _ f210_1).mono ?_
            rintro _ w211 ⟨rfl, hb211⟩
            have f211_0 : In w.heap.size w w211 := f210_0.step hb211
            have f211_1 : ReadsFlour w211 A k xs := f210_1.step hb211
            have f211_2 : ReadsI w211 (some ⟨gx, 0, none⟩) k (twoL k i q m (T - m)) := f210_2.step hb211
            have f211_3 : ReadsI w211 (some ⟨gz, 0, none⟩) k (twoL k i q zz (T - zz)) := f210_3.step hb211
            clear f210_0 f210_1 f210_2 f210_3
            clear hb211
            obtain ⟨w_m, hrun, hown0, hgrow0⟩ := run_make_full (P := Try.prog) w211 w211.heap.size 43 3 i0 (.int .i64 0) 1 Try.underlying43 hi0 hz0 hz1 .i64 .i64 k (by rw [hz2]; omega) (by unfold maxLen; omega) (Nat.le_refl _)
            have hb_m : Below w211.heap.size w211 w_m := (Below.refl _ _).grown hgrow0 (Nat.le_refl _) (fun j hj => by cases hj)
            have wy_m : Ways w_m w211.heap.size k (fun _ => 0) := ways_made (by have h := hown0; rw [show (Value.int .i64 0).cells = #[Value.int .i64 0] from rfl, Nat.mul_one, toList_madeCells_one] at h; exact h)
            clear hown0 hgrow0
            go_wp2_with fail
            clear hrun
            have r9 : ReadsI w_m (some ⟨w211.heap.size, 0, none⟩) k (kL (fun _ => 0) k) := wy_m.reads
            clear wy_m
            have f212_0 : In w.heap.size w w_m := f211_0.step hb_m
            have f212_1 : ReadsFlour w_m A k xs := f211_1.step hb_m
            have f212_2 : ReadsI w_m (some ⟨gx, 0, none⟩) k (twoL k i q m (T - m)) := f211_2.step hb_m
            have f212_3 : ReadsI w_m (some ⟨gz, 0, none⟩) k (twoL k i q zz (T - zz)) := f211_3.step hb_m
            clear f211_0 f211_1 f211_2 f211_3
            clear hb_m
            refine (HBZ.out _ _ _ f212_1 r9).mono ?_
            rintro _ w213 ⟨rfl, hb213⟩
            have f213_0 : In w.heap.size w w213 := f212_0.step hb213
            have f213_1 : ReadsFlour w213 A k xs := f212_1.step hb213
            have f213_2 : ReadsI w213 (some ⟨gx, 0, none⟩) k (twoL k i q m (T - m)) := f212_2.step hb213
            have f213_3 : ReadsI w213 (some ⟨gz, 0, none⟩) k (twoL k i q zz (T - zz)) := f212_3.step hb213
            clear f212_0 f212_1 f212_2 f212_3
            clear hb213
            clear r9
            have s1 := reads_lflour w213 56
            have s2 := reads_ltwo (w213.alloc (.cells #[.int .i64 100, .int .i64 1, .int .i64 5, .int .i64 200, .int .i64 1, .int .i64 5] 56)) 3 1 1
            have s3 := s1.alloc (.cells #[.int .i64 1, .int .i64 1] 3)
            have i9 := (f213_0.alloc (.cells #[.int .i64 100, .int .i64 1, .int .i64 5, .int .i64 200, .int .i64 1, .int .i64 5] 56)).alloc (.cells #[.int .i64 1, .int .i64 1] 3)
            have S2 := Lib.hid s2
            have S3 := Lib.hid s3
            have I9 := Lib.hid i9
            clear s1 s2 s3 i9
            go_wp2_with fail
            refine (HLIT.out _ _ _ _ _ S3.out (by have h := S2.out; simpa using h)).mono ?_
            rintro _ w9 ⟨rfl, hb9⟩
            go_wp2
            go_ret
            exact ⟨rfl, (I9.out.step hb9).below⟩
end Go.Proofs.Ytmkfnhgaiheckaa
