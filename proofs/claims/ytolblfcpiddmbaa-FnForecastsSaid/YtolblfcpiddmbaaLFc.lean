/- The law FnForecasts. -/
import Derived.Test.YtolblfcpiddmbaaFcP
import Derived.Test.YtolblfcpiddmbaaFcR
import Derived.Test.YtolblfcpiddmbaaSl
import Derived.Test.YtolblfcpiddmbaaQuietL
import Derived.Test.YtolblfcpiddmbaaAtAll
import Derived.BigQuiet
import Derived.Deep.QuietTactic
import Derived.BigRegion
import Derived.RegionTactic
namespace Go.Proofs.Ytolblfcpiddmbaa
open Go.ChangeShapes Go.WideShapes Go.ChangeAt Go.RowKit
set_option linter.unusedVariables false
set_option linter.unusedSimpArgs false
set_option maxHeartbeats 2000000

set_option maxHeartbeats 40000000 in
set_option maxRecDepth 20000 in
theorem walk_FnForecasts (a0 : Option Addr) (len0 cap0 : Nat) (z0 : List Int) (w : World) (w0 : IsRow .u8 w a0 len0 cap0 z0) :
    Calls Try.prog 3 #[.slice a0 len0 cap0] w fun e w' => e = .returned (.bool true) ∧ Below w.heap.size w w' := by
  have hb := ReadsU.of_row w0
  have hm := hb.1
  clear w0
  by_cases hbig : (1048576 : Int) < (len0 : Int)
  · go_enter Try.func3, Try.ntmps3
    go_wp2_with fail
    refine (bigU _ _ _ _ hm true (by simpa using hbig)).mono ?_
    rintro e w' ⟨rfl, rfl⟩
    go_wp2_with fail
    go_ret
    exact ⟨rfl, Below.refl _ _⟩
  have HB := Lib.hid hb
  obtain ⟨i0, hi0, hz0, hz1, hz2⟩ := info_parts infoDl
  go_enter Try.func3, Try.ntmps3
  go_wp2_with fail
  refine (bigU _ _ _ _ hm false (by simpa using hbig)).mono ?_
  rintro e w' ⟨rfl, rfl⟩
  clear hbig hm hb
  have f0_0 : In w.heap.size w w := In.refl w
  have hbu := HB.out
  go_wp2_with fail
  refine (DrawSales_c _ _ _ _ (bytes_of hbu)).mono ?_
  rintro _ w1 ⟨A, cp, n, xs, rfl, hn, hx, hrd, hl, hnc, hAn, hb1⟩
  have f1_0 : In w.heap.size w w1 := f0_0.step hb1
  have f1_1 : ReadsI w1 A n xs := hrd
  clear f0_0
  clear hb1 hrd hbu HB
  obtain ⟨hS, T, WW, M, y, z, K, E, eT, lT, eW, lW, ez, hz, eM, lM, ey, eW0, eWg, eMg, eWy, eB, hK, hday, eE, hE, hE7⟩ := fore_law hn hx hl
  have hnm : n ≤ maxLen := by unfold maxLen; omega
  have HBD : Hid (∀ W, ReadsI W A n xs → Calls Try.prog 11 #[.slice A n cp] W (Val (i64 (K : Int)) W)) := Lib.hid fun W h => by
    have := iBusiestDay A n cp xs W hnm h
    rwa [eB] at this
  have HNX : Hid (∀ W, ReadsI W A n xs → Calls Try.prog 12 #[.slice A n cp] W (Same (i64 (meanV n xs ((n : Int) % 7))) W)) := Lib.hid fun W h => iNextSales A n cp xs W hnm h
  have HMO : Hid (∀ d W, ReadsI W A n xs → Calls Try.prog 13 #[.slice A n cp, .int .i64 d] W (Same (i64 (meanV n xs d)) W)) := Lib.hid fun d W h => iMeanOf A n cp xs d W hnm h
  have HES : Hid (∀ W, ReadsI W A n xs → Calls Try.prog 14 #[.slice A n cp] W (Val (i64 E) W)) := Lib.hid fun W h => by
    have := iErrorSum A n cp xs W hnm hnc h
    rwa [eE] at this
  have HSO : Hid (∀ W, ReadsI W A n xs → Calls Try.prog 16 #[.slice A n cp] W (Same (.bool true) W)) := Lib.hid fun W h => by
    have := iSalesOk A n cp xs W hnm h
    rwa [hS] at this
  have HNK : Hid (∀ k W B, k ≤ n → ReadsI W B k (xs.take k) → Calls Try.prog 12 #[.slice B k cp] W (Same (i64 (nextR xs k)) W)) := Lib.hid fun k W B hk h => iNextSales B k cp (xs.take k) W (by unfold maxLen; omega) h
  have HWE : Hid (∀ W B c, 14 ≤ c → ReadsI W B 14 WW → Calls Try.prog 14 #[.slice B 14 c] W (Val (i64 0) W)) := Lib.hid fun W B c hc h => by
    have := iErrorSum B 14 c WW W (by unfold maxLen; omega) hc h
    rwa [eW0] at this
  have HWG : Hid (∀ W B c, 14 ≤ c → ReadsI W B 14 WW → Calls Try.prog 15 #[.slice B 14 c] W (Val (.bool false) W)) := Lib.hid fun W B c hc h => by
    have := iIsGrowing B 14 c WW W (by unfold maxLen; omega) hc h
    rwa [eWg] at this
  have HMG : Hid (∀ W B c, 14 ≤ c → ReadsI W B 14 M → Calls Try.prog 15 #[.slice B 14 c] W (Val (.bool true) W)) := Lib.hid fun W B c hc h => by
    have := iIsGrowing B 14 c M W (by unfold maxLen; omega) hc h
    rwa [eMg] at this
  have HWY : Hid (∀ W B c, ReadsI W B 14 WW → Calls Try.prog 12 #[.slice B 14 c] W (Same (i64 y) W)) := Lib.hid fun W B c h => by
    have := iNextSales B 14 c WW W (by unfold maxLen; omega) h
    rwa [show (((14 : Nat) : Int) % 7) = 0 by omega, eWy] at this
  have HDY := Lib.hid hday
  have HX := Lib.hid hx
  have HE := Lib.hid hE
  have HE7 := Lib.hid hE7
  have HSS := Lib.hid hS
  have HAn := Lib.hid hAn
  have HNM := Lib.hid hnm
  have HT := Lib.hid eT
  have HLT := Lib.hid lT
  have HWW := Lib.hid eW
  have HEZ := Lib.hid ez
  have HEM := Lib.hid eM
  have HEY := Lib.hid ey
  have HLW := Lib.hid lW
  have HLM := Lib.hid lM
  clear hday hx hE hE7 hS hAn hnm eT lT eW ez eM ey lW lM eW0 eWg eMg eWy eB eE hl
  go_wp2_with fail
  refine (HBD.out _ f1_1).mono ?_
  rintro _ w2 ⟨rfl, hb2⟩
  have f2_0 : In w.heap.size w w2 := f1_0.step hb2
  have f2_1 : ReadsI w2 A n xs := f1_1.step hb2
  clear f1_0 f1_1
  clear hb2
  clear HBD
  go_wp2_with fail
  refine (HNX.out _ f2_1).mono ?_
  rintro e w' ⟨rfl, rfl⟩
  clear HNX
  have q1 : (n : Int).tmod 7 = (n : Int) % 7 := Int.tmod_eq_emod_of_nonneg (by omega)
  have g0_ : (7 : Int) ≤ (n : Int) := by omega
  have g1_ : (K : Int) ≤ 6 := by omega
  go_wp2_with fail
  refine (HMO.out _ _ f2_1).mono ?_
  rintro e w' ⟨rfl, rfl⟩
  generalize meanV n xs ((n : Int) % 7) = mv at *
  clear q1
  go_wp2
  go_loopw [6, 7, 8, 9, 10] (fun i a2 a3 a4 a5 wr => ∃ d1 : Nat, d1 ≤ 7 ∧ i = .int .i64 d1 ∧ (In w.heap.size w wr ∧ ReadsI wr A n xs)) (fun i _ _ _ _ _ => 7 - (intOf i).toNat)
  case atStart => exact ⟨0, Nat.zero_le _, rfl, f2_0, f2_1⟩
  case round =>
    obtain ⟨d, hd7, rfl, f3_0, f3_1⟩ := hrel
    clear f2_0 f2_1
    obtain ⟨wa, hq9⟩ : ∃ q, q = wr := ⟨_, rfl⟩
    subst hq9
    by_cases hlt : d < 7
    · skip
      obtain ⟨e1, e2, e3, e4, e5, e6⟩ := HDY.out d (by omega)
      obtain ⟨e7, _⟩ := HDY.out K hK
      have HMd := Lib.hid (fun W (h : ReadsI W A n xs) => HMO.out (d : Int) W h)
      rw [e1] at HMd
      have HMK := Lib.hid (fun W (h : ReadsI W A n xs) => HMO.out (K : Int) W h)
      rw [e7] at HMK
      clear e1 e7
      obtain ⟨L9, hL9⟩ : ∃ L9, lowD xs d (cntM n d) = L9 := ⟨_, rfl⟩
      obtain ⟨H9, hH9⟩ : ∃ H9, highD xs d (cntM n d) = H9 := ⟨_, rfl⟩
      rw [hL9] at e5
      rw [hH9] at e6
      have HL9 := Lib.hid hL9
      have HH9 := Lib.hid hH9
      generalize dF n xs d = md at *
      generalize dF n xs K = mk at *
      have HI4 := Lib.hid e4
      clear hL9 hH9 e4
      go_wp2_with fail
      refine (HMd.out _ f3_1).mono ?_
      rintro e w' ⟨rfl, rfl⟩
      clear HMd
      go_wp2
      go_loopw [8, 9, 10] (fun a c i wr => ∃ j k1 : Nat, k1 = d + 7 * j ∧ j ≤ cntM n d ∧ i = .int .i64 k1 ∧ a = .int .i64 (lowD xs d j) ∧ c = .int .i64 (highD xs d j) ∧ (In w.heap.size w wr ∧ ReadsI wr A n xs)) (fun _ _ i _ => n + 7 - (intOf i).toNat)
      case atStart => exact ⟨0, d, by omega, Nat.zero_le _, rfl, rfl, rfl, f3_0, f3_1⟩
      case round =>
        obtain ⟨j, k, hkj, hj, rfl, rfl, rfl, f4_0, f4_1⟩ := hrel
        clear f3_0 f3_1
        have HKJ := Lib.hid hkj
        by_cases hlt2 : k < n
        · skip
          have hjc : j < cntM n d := by unfold cntM; omega
          obtain ⟨ad, rfl, hc⟩ := f4_1.2 k hlt2
          have hxk := HX.out k hlt2
          (try simp only [] at hxk)
          have hlh := lh_in HX.out d j fun t ht => by unfold cntM at hj; omega
          have HS1 : Hid (lowD xs d (j + 1) = min (lowD xs d j) (xs.getD k 0)) := Lib.hid (by have h9 := HKJ.out; subst h9; rfl)
          have HS2 : Hid (highD xs d (j + 1) = max (highD xs d j) (xs.getD k 0)) := Lib.hid (by have h9 := HKJ.out; subst h9; rfl)
          obtain ⟨l1, l2, l3, l4, _⟩ := hlh
          generalize lowD xs d j = lo at *
          generalize highD xs d j = hi at *
          generalize xs.getD k 0 = v at *
          clear hkj
          have hk1 : k + 7 ≤ 1000 := by omega
          by_cases hm1 : v < lo
          · skip
            by_cases hm2 : hi < v
            · skip
              go_wp2
              go_roundw
              case rel => exact ⟨j + 1, k + 7, by have h9 := HKJ.out; omega, by omega, by go_num, v_int (by rw [HS1.out]; omega), v_int (by rw [HS2.out]; omega), f4_0, f4_1⟩
              case measure => simp [intOf]; omega
            · skip
              go_wp2
              go_roundw
              case rel => exact ⟨j + 1, k + 7, by have h9 := HKJ.out; omega, by omega, by go_num, v_int (by rw [HS1.out]; omega), v_int (by rw [HS2.out]; omega), f4_0, f4_1⟩
              case measure => simp [intOf]; omega
          · skip
            by_cases hm2 : hi < v
            · skip
              go_wp2
              go_roundw
              case rel => exact ⟨j + 1, k + 7, by have h9 := HKJ.out; omega, by omega, by go_num, v_int (by rw [HS1.out]; omega), v_int (by rw [HS2.out]; omega), f4_0, f4_1⟩
              case measure => simp [intOf]; omega
            · skip
              go_wp2
              go_roundw
              case rel => exact ⟨j + 1, k + 7, by have h9 := HKJ.out; omega, by omega, by go_num, v_int (by rw [HS1.out]; omega), v_int (by rw [HS2.out]; omega), f4_0, f4_1⟩
              case measure => simp [intOf]; omega
        · skip
          have hjj : j = cntM n d := by unfold cntM at hj ⊢; omega
          have hlo : lowD xs d j = L9 := by rw [hjj]; exact HL9.out
          have hhi : highD xs d j = H9 := by rw [hjj]; exact HH9.out
          rw [hlo, hhi]
          clear hlo hhi hjj hkj HKJ hj
          have d1 : decide (md < L9) = false := decide_eq_false (by omega)
          have d2 : decide (H9 < md) = false := decide_eq_false (by omega)
          have d3 : decide (mk < md) = false := decide_eq_false (by omega)
          have hn1 : ¬ md < L9 := by omega
          have hn2 : ¬ H9 < md := by omega
          have hn3 : ¬ mk < md := by omega
          by_cases hdk : d < K
          · skip
            have h4 := HI4.out hdk
            have hne : ¬ md = mk := by omega
            have hdk2 : (d : Int) < (K : Int) := by omega
            go_wp2_with (go_at_call 13; refine (HMK.out _ f4_1).mono ?_; rintro _ _ ⟨rfl, rfl⟩)
            go_roundw
            case rel => exact ⟨d + 1, by omega, by go_num, f4_0, f4_1⟩
            case measure => simp [intOf]; omega
          · skip
            have hdk2 : ¬ (d : Int) < (K : Int) := by omega
            go_wp2_with (go_at_call 13; refine (HMK.out _ f4_1).mono ?_; rintro _ _ ⟨rfl, rfl⟩)
            go_roundw
            case rel => exact ⟨d + 1, by omega, by go_num, f4_0, f4_1⟩
            case measure => simp [intOf]; omega
    · skip
      as_aux_lemma =>
       generalize hd8 : d = d8 at *
       clear hd8 HDY HMO
       have he7 := HE7.out
       have hs0 : sumTo (errG xs) 7 = 0 := he7
       clear he7
       go_wp2
       go_loopw [11, 12, 13] (fun a i a3 wr => ∃ k1 : Nat, 7 ≤ k1 ∧ k1 ≤ n ∧ i = .int .i64 k1 ∧ a = .int .i64 (sumTo (errG xs) k1) ∧ (In w.heap.size w wr ∧ ReadsI wr A n xs)) (fun _ i _ _ => n - (intOf i).toNat)
       case atStart => exact ⟨7, Nat.le_refl _, by omega, rfl, by rw [hs0], f3_0, f3_1⟩
       case round =>
         obtain ⟨k, hk7, hkn, rfl, rfl, f4_0, f4_1⟩ := hrel
         clear f3_0 f3_1
         by_cases hlt3 : k < n
         · skip
           obtain ⟨ad, rfl, hc⟩ := f4_1.2 k hlt3
           have hxk := HX.out k hlt3
           (try simp only [] at hxk)
           have htk := reads_hi f4_1 k hkn
           have hbd := sumTo_bd (errG xs) 10001 k fun i hi => errG_in (n := n) (fun i hi => by have := HX.out i hi; (try simp only [] at this); omega) i (by omega)
           have hnr := nextR_in xs k
           have HS1 : Hid (sumTo (errG xs) (k + 1) = sumTo (errG xs) k + max (xs.getD k 0 - nextR xs k) (-(xs.getD k 0 - nextR xs k))) := Lib.hid (by rw [sumTo_succ]; congr 1; unfold errG; rw [if_neg (by omega)])
           have HNk := Lib.hid (fun W (h : ReadsI W (some ad) k (xs.take k)) => HNK.out k W (some ad) hkn h)
           generalize xs.getD k 0 = v at *
           generalize nextR xs k = u at *
           generalize sumTo (errG xs) k = s at *
           have hkc : (k : Int) ≤ cp := by omega
           have hs1 : 0 ≤ s ∧ s ≤ 300000 := by omega
           clear hbd
           obtain ⟨x, hxx⟩ : ∃ x : Int, v - u = x := ⟨_, rfl⟩
           have hxb : -10000 ≤ x ∧ x ≤ 100 := by omega
           have V1 : IntKind.i64.wrap (v - u) = x := by rw [IntWalk.i64_in _ (by omega)]; omega
           rw [hxx] at HS1
           have HXX := Lib.hid hxx
           clear hxx
           have hkn0 : (k : Int) < (n : Int) := by omega
           have hk00 : (0 : Int) ≤ (k : Int) := by omega
           have hkcn : k ≤ cp := by omega
           go_wp2_with fail
           have HCL := Lib.hid (show ∀ W', In w.heap.size w W' ∧ ReadsI W' (some ad) n xs ∧ ReadsI W' (some ad) k (xs.take k) ∧ W'.cell? (ad.add k) = some (.int .i64 v) → ∀ W2, Below W'.heap.size W' W2 → In w.heap.size w W2 ∧ ReadsI W2 (some ad) n xs ∧ ReadsI W2 (some ad) k (xs.take k) ∧ W2.cell? (ad.add k) = some (.int .i64 v) from fun W' h W2 hb => by
             obtain ⟨g0, g1, g2, g3⟩ := h
             exact ⟨g0.step hb, g1.step hb, g2.step hb, cell_in g3 ⟨hb, hb.size⟩⟩)
           refine wp_region_S (C := (fun w' => In w.heap.size w w' ∧ ReadsI w' (some ad) n xs ∧ ReadsI w' (some ad) k (xs.take k) ∧ w'.cell? (ad.add k) = some (.int .i64 v))) (by kernel_rfl) (by kernel_rfl) ?_ ?_
           · exact ⟨f4_0.drew, f4_1, htk, hc⟩
           repeat (first | go_big_quiet_skip | (go_big_quiet_want; first | (refine quiet_ex ?_; apply Exists.intro; refine ⟨fun W hW => ?_, ?_⟩; (· (obtain ⟨f5_0, f5_1, f5_2, f5_3⟩ := hW; go_simp; (first | done | with_reducible rfl | rfl))); simp only [Act.put, List.setIfInBounds_toArray, List.set_cons_zero, List.set_cons_succ]; go_big_quiet_on) | (refine quiet_ex ?_; apply Exists.intro; refine ⟨fun W hW => ?_, ?_⟩; (· (go_simp; first | (go_at_call 12; (with_reducible refine (HNk.out _ hW.2.2.1).mono ?_); rintro e w2 ⟨rfl, rfl⟩; exact ⟨rfl, hW⟩))); simp only [Act.put, List.setIfInBounds_toArray, List.set_cons_zero, List.set_cons_succ]; go_big_quiet_on)))
           refine wpQuiet_nil ?_
           rintro w' ⟨f5_0, f5_1, f5_2, f5_3⟩
           clear f4_0 f4_1 htk hc
           obtain ⟨u1_, hx9⟩ : ∃ x, x = w' := ⟨_, rfl⟩
           subst hx9
           clear HCL HNk V1
           by_cases hmx : x < -x
           · skip
             go_wp2
             go_roundw
             case rel => exact ⟨k + 1, by omega, by omega, by go_num, v_int (by rw [HS1.out]; omega), f5_0, f5_1⟩
             case measure => simp [intOf]; omega
           · skip
             go_wp2
             go_roundw
             case rel => exact ⟨k + 1, by omega, by omega, by go_num, v_int (by rw [HS1.out]; omega), f5_0, f5_1⟩
             case measure => simp [intOf]; omega
         · skip
           obtain rfl : n = k := by omega
           have hE := HE.out
           rw [hE]
           clear hE HE HE7 HNK hs0 hk7 hkn hlt3
           obtain ⟨wb, hq9⟩ : ∃ q, q = wr := ⟨_, rfl⟩
           subst hq9
           have hrT := reads_hi f4_1 7 (by omega)
           rw [HT.out] at hrT
           have h7c : (7 : Int) ≤ (cp : Int) := by omega
           have h7n : 7 ≤ cp := by omega
           have own0 := own_new wb 3 wb.heap.size (Nat.le_refl _)
           obtain ⟨ad, rfl, _⟩ := f4_1.2 0 (by omega)
           have own0d := own0.drew
           have hrd := (hrT.alloc (.cells #[] 3)).drew
           have HC1 := Lib.hid (iv_cells hrd ad rfl)
           have HLN : Hid ((iv T).length = 7 * 1) := Lib.hid (by rw [iv_len, HLT.out])
           have HON := Lib.hid (iv_one T)
           have q1 : 0 + 7 ≤ maxLen := by unfold maxLen; omega
           have q2 : (0 + 7) * 8 ≤ 140737488355328 := by omega
           have q3 : (0 + 7) + 7 ≤ maxLen := by unfold maxLen; omega
           have q4 : ((0 + 7) + 7) * 8 ≤ 140737488355328 := by omega
           have hbs : wb.heap.size ≤ ((wb.alloc (.cells #[] 3)).drew).heap.size := by simp [World.drew]
           have hbB : Below wb.heap.size wb ((wb.alloc (.cells #[] 3)).drew) := ((Below.refl _ wb).alloc (Nat.le_refl _) _).drew
           clear hrd own0
           go_wp2_with fail
           go_region_held3 (fun _ => True) (trivial)
                       (first
                        | (refine step_append_lies _ rfl (.tmp 111) (.tmp 113) 24 rfl wb.heap.size 3 i0 (.int .i64 0) 1 8 Try.underlying24 hi0 hz0 hz1 hz2 rfl Nat.one_pos (.slice (some ⟨wb.heap.size, 0, none⟩) 0 0) 0 [] rfl own0d ad 7 cp (iv T) rfl HLN.out HC1.out HON.out (by decide) q1 q2 hbs _ rfl ?_; intro g1 c1 w1 hown1 hgr1 hgb1 hgl1; have hb1 : Below wb.heap.size wb w1 := hbB.grown hgr1 hbs (own_ge_s own0d); have HC2 := Lib.hid (iv_cells (hrT.below hb1 (Nat.le_refl _)) ad rfl); have hbs2 : wb.heap.size ≤ w1.heap.size := hb1.size)
                        | (refine step_append_lies _ rfl (.tmp 114) (.tmp 116) 24 rfl wb.heap.size 3 i0 (.int .i64 0) 1 8 Try.underlying24 hi0 hz0 hz1 hz2 rfl Nat.one_pos (.slice (some ⟨g1, 0, none⟩) (0 + 7) c1) (0 + 7) ([] ++ iv T) rfl hown1 ad 7 cp (iv T) rfl HLN.out HC2.out HON.out (by decide) q3 q4 hbs2 _ rfl ?_; intro g2 c2 w2 hown2 hgr2 hgb2 hgl2; have hb2 : Below wb.heap.size wb w2 := hb1.grown hgr2 hbs2 (own_ge_s hown1)))
           clear HC1 HC2 own0d hbs hbB hown1 hgr1 hgb1 hgl1 hb1 hbs2 q1 q2 hgr2 hgb2 hgl2
           have hownW : w2.ownsRow wb.heap.size 3 1 (.slice (some ⟨g2, 0, none⟩) 14 c2) 14 (iv WW) := by
             rw [← HWW.out, iv_app]; exact hown2
           have hrW := reads_own_i hownW
           have hc2 := own_cap hownW
           clear hown2
           have f5_0 : In w.heap.size w w2 := f4_0.step hb2
           have f5_1 : ReadsI w2 (some ad) n xs := f4_1.step hb2
           have f5_2 : ReadsI w2 (some ⟨g2, 0, none⟩) 14 WW := hrW
           clear f4_0 f4_1
           clear hb2 hrW hrT HLN HON q3 q4
           obtain ⟨wc, hwc⟩ : ∃ q, q = w2 := ⟨_, rfl⟩
           subst hwc
           have own0 := own_new wc 3 wc.heap.size (Nat.le_refl _)
           have hrx := f5_2.alloc (.cells #[] 3)
           have HC3 := Lib.hid (iv_cells hrx)
           have HLN : Hid ((iv WW).length = 14 * 1) := Lib.hid (by rw [iv_len, HLW.out])
           have HON := Lib.hid (iv_one WW)
           have q1 : 0 + 14 ≤ maxLen := by unfold maxLen; omega
           have q2 : (0 + 14) * 8 ≤ 140737488355328 := by omega
           have hs1 : wc.heap.size ≤ (wc.alloc (.cells #[] 3)).heap.size := by simp
           have hb0 : Below wc.heap.size wc (wc.alloc (.cells #[] 3)) := (Below.refl _ wc).alloc (Nat.le_refl _) _
           clear hrx
           go_wp2_with (at_builtin; refine wpList_app_spread rfl (.tmp 118) (.tmp 119) 24 rfl wc.heap.size 3 i0 (.int .i64 0) 1 8 Try.underlying24 hi0 hz0 hz1 hz2 rfl Nat.one_pos (.slice (some ⟨wc.heap.size, 0, none⟩) 0 0) 0 [] rfl own0 (some ⟨g2, 0, none⟩) 14 c2 (iv WW) rfl (fun h9 => by cases h9) HLN.out HC3.out HON.out q1 q2 hs1 ?_; intro v3 w3 hown3 hbw3; have hownV : w3.ownsRow wc.heap.size 3 1 v3 14 (iv WW) := hown3; have hform : ∃ g3 c3, v3 = .slice (some ⟨g3, 0, none⟩) 14 c3 := (by obtain ⟨g3, c3, e3, _⟩ := hownV.form (by omega); exact ⟨g3, c3, e3⟩); obtain ⟨g3, c3, rfl⟩ := hform; obtain ⟨cg, cz, cr, hc3, hg3⟩ := own_setI (z + 1) hownV (show 13 < 14 by omega); (rw [HEZ.out] at cg); (rw [HEM.out] at cr); have V1 : wrap64 (z + 1) = z + 1 := (w64 ⟨by omega, by omega⟩))
           have hbm : Below wc.heap.size wc (w3.setCell ⟨g3, 13, none⟩ (.int .i64 (z + 1))) := (hb0.trans hbw3).setCell hg3 _
           have f6_0 : In w.heap.size w (w3.setCell ⟨g3, 13, none⟩ (.int .i64 (z + 1))) := f5_0.step hbm
           have f6_1 : ReadsI (w3.setCell ⟨g3, 13, none⟩ (.int .i64 (z + 1))) (some ad) n xs := f5_1.step hbm
           have f6_2 : ReadsI (w3.setCell ⟨g3, 13, none⟩ (.int .i64 (z + 1))) (some ⟨g2, 0, none⟩) 14 WW := f5_2.step hbm
           have f6_3 : ReadsI (w3.setCell ⟨g3, 13, none⟩ (.int .i64 (z + 1))) (some ⟨g3, 0, none⟩) 14 M := cr
           clear f5_0 f5_1 f5_2
           clear hbm cr cg cz V1 hb0 hbw3 hownV hown3 own0 HC3 HLN HON q1 q2 hs1 hownW
           obtain ⟨wd, hwd⟩ : ∃ q, q = (w3.setCell ⟨g3, 13, none⟩ (.int .i64 (z + 1))) := ⟨_, rfl⟩
           skip
           obtain ⟨ad0, had0, cy⟩ := f6_1.2 0 (by omega)
           obtain rfl : ad = ad0 := Option.some.inj had0
           rw [HEY.out] at cy
           have cy2 := cy
           rw [show ad.add 0 = ad by simp [Addr.add]] at cy2
           have g7_ : (0 : Int) < (n : Int) := by omega
           have g8_ : 0 < n := by omega
           have g9_ : ¬ n = 0 := by omega
           clear had0
           clear cy
           have HCL := Lib.hid (show ∀ W', In w.heap.size w W' ∧ ReadsI W' (some ad) n xs ∧ ReadsI W' (some ⟨g2, 0, none⟩) 14 WW ∧ ReadsI W' (some ⟨g3, 0, none⟩) 14 M ∧ W'.cell? ad = some (.int .i64 y) → ∀ W2, Below W'.heap.size W' W2 → In w.heap.size w W2 ∧ ReadsI W2 (some ad) n xs ∧ ReadsI W2 (some ⟨g2, 0, none⟩) 14 WW ∧ ReadsI W2 (some ⟨g3, 0, none⟩) 14 M ∧ W2.cell? ad = some (.int .i64 y) from fun W' h W2 hb => by
             obtain ⟨g0, g1, g2, g3, g4⟩ := h
             exact ⟨g0.step hb, g1.step hb, g2.step hb, g3.step hb, cell_in g4 ⟨hb, hb.size⟩⟩)
           refine wp_region_S (C := (fun w' => In w.heap.size w w' ∧ ReadsI w' (some ad) n xs ∧ ReadsI w' (some ⟨g2, 0, none⟩) 14 WW ∧ ReadsI w' (some ⟨g3, 0, none⟩) 14 M ∧ w'.cell? ad = some (.int .i64 y))) (by kernel_rfl) (by kernel_rfl) ?_ ?_
           · exact ⟨f6_0.drew, f6_1, f6_2, f6_3, cy2⟩
           repeat (first | go_big_quiet_skip | (go_big_quiet_want; first | (refine quiet_ex ?_; apply Exists.intro; refine ⟨fun W hW => ?_, ?_⟩; (· (obtain ⟨f7_0, f7_1, f7_2, f7_3, f7_4⟩ := hW; go_simp; (first | done | with_reducible rfl | rfl))); simp only [Act.put, List.setIfInBounds_toArray, List.set_cons_zero, List.set_cons_succ]; go_big_quiet_on) | (refine quiet_ex ?_; apply Exists.intro; refine ⟨fun W hW => ?_, ?_⟩; (· (go_simp; first | (go_at_call 14; (with_reducible refine (HES.out _ hW.2.1).mono ?_); rintro e w2 ⟨rfl, hb2⟩; exact ⟨rfl, HCL.out _ hW _ hb2⟩) | (go_at_call 14; (with_reducible refine (HWE.out _ _ c2 hc2 hW.2.2.1).mono ?_); rintro e w2 ⟨rfl, hb2⟩; exact ⟨rfl, HCL.out _ hW _ hb2⟩) | (go_at_call 15; (with_reducible refine (HWG.out _ _ c2 hc2 hW.2.2.1).mono ?_); rintro e w2 ⟨rfl, hb2⟩; exact ⟨rfl, HCL.out _ hW _ hb2⟩) | (go_at_call 15; (with_reducible refine (HMG.out _ _ c3 hc3 hW.2.2.2.1).mono ?_); rintro e w2 ⟨rfl, hb2⟩; exact ⟨rfl, HCL.out _ hW _ hb2⟩) | (go_at_call 16; (with_reducible refine (HSO.out _ hW.2.1).mono ?_); rintro e w2 ⟨rfl, rfl⟩; exact ⟨rfl, hW⟩) | (go_at_call 12; (with_reducible refine (HWY.out _ _ c2 hW.2.2.1).mono ?_); rintro e w2 ⟨rfl, rfl⟩; exact ⟨rfl, hW⟩))); simp only [Act.put, List.setIfInBounds_toArray, List.set_cons_zero, List.set_cons_succ]; go_big_quiet_on)))
           refine wpQuiet_nil ?_
           rintro w' ⟨f7_0, f7_1, f7_2, f7_3, f7_4⟩
           clear f6_0 f6_1 f6_2 f6_3 cy2
           go_wp2
           go_ret
           exact ⟨ret_bool rfl, f7_0.below⟩
 end Go.Proofs.Ytolblfcpiddmbaa
