/- Chapter 11: FoldsFor, the walks. -/
import Derived.Test.YtjcmdmiafeaeoabF11
namespace Go.Proofs.Ytjcmdmiafeaeoab
open Go.ChangeShapes Go.WideShapes Go.ChangeAt Go.RowKit
set_option linter.unusedVariables false
set_option linter.unusedSimpArgs false

theorem rowV_of {a w : World} {A : Option Addr} {n c : Nat} {zs : List Int} {v : Value} (hl : zs.length = n) (ho : w.ownsRow a.heap.size 3 1 (.slice A n c) n (iv zs)) (hb : Below a.heap.size a w) : RowV zs v a (.returned (.tuple #[.slice A n c, v])) w := by
  subst hl; exact ⟨_, _, rfl, ho, hb⟩
set_option maxHeartbeats 4000000 in
theorem sFoldsFor (l : Int) (w : World) : Calls Try.prog 25 #[.int .i64 l] w (RowV (FoldsForL l) (.bool (foldsB l)) w) := by
  obtain ⟨i0, hi0, hz0, hz1, hz2⟩ := info_parts infoI
  have hi : In w.heap.size w (w.alloc (.cells #[] 3)) := by (repeat (first | exact In.refl _ | assumption | apply In.alloc | apply In.drewN | apply In.drew | (refine In.step ?_ (by assumption))))
  have hown : (w.alloc (.cells #[] 3)).ownsRow w.heap.size 3 1 (.slice (some ⟨w.heap.size, 0, none⟩) 0 0) 0 (iv []) := own_new w 3 w.heap.size (Nat.le_refl _)
  cases h : inB l 1 10000
  · have HB : Hid (foldsB l = false) := Lib.hid (by simp [foldsB, h])
    have HV : Hid (FoldsForL l = []) := Lib.hid (by simp [FoldsForL, HB.out])
    go_enter Try.func25, Try.ntmps25
    go_wp2_with (first | (go_at_call 42; refine (sIn _ _ _ _).mono ?_; rintro e w' ⟨rfl, rfl⟩) | (go_at_call 39; refine (iIn _ _ _ _).mono ?_; rintro e w' ⟨rfl, rfl⟩) | go_in | (go_end0; simp only []; go_at_K))
    exact bodyPost_ret (v := .tuple #[.slice (some ⟨w.heap.size, 0, none⟩) 0 0, .bool false]) (by simp [results, Try.results25, go_sem]) rfl (by rw [HV.out, HB.out]; exact rowV_of rfl hown hi.below)
  obtain ⟨b1, b2⟩ := inB_tt h
  obtain ⟨M, rfl⟩ : ∃ n : Nat, l = n := ⟨l.toNat, by omega⟩
  have HAG := Lib.hid (agree_at (l := M) (by omega) (by omega))
  have HB : Hid (foldsB (M : Int) = decide (stN M 3 = 1)) := Lib.hid (by simp [foldsB, h])
  go_enter Try.func25, Try.ntmps25
  go_wp2_with fail
  refine (sIn _ _ _ _).mono ?_
  rintro _ _ ⟨rfl, rfl⟩
  rw [h]
  clear h
  go_wp2
  go_loop [0, 5] (fun n t => ∃ k c f : Nat, n = .int .i64 (k : Int) ∧ t = .int .i64 (c : Int) ∧ 1 ≤ k ∧ k < 2 ^ f ∧ strip 2 14 M = strip 2 f k ∧ cnt 2 14 M = c + cnt 2 f k ∧ f ≤ 14 ∧ k ≤ 10000) (fun n _ => (intOf n).toNat)
  case atStart => exact ⟨M, 0, 14, rfl, rfl, by omega, by simp; omega, rfl, by omega, by omega, by omega⟩
  case round =>
    obtain ⟨k, c, f, rfl, rfl, hk1, hkf, hs, hc, hf14, hkm⟩ := hrel
    by_cases hr : k % 2 = 0
    · obtain ⟨g, rfl, g1, g2, g3, g4, g5⟩ := step_ok (by decide) hk1 hkf hr
      have hq : (k : Int) / 2 = ((k / 2 : Nat) : Int) := by omega
      have hm2 : (k : Int) % 2 = 0 := by omega
      have hc2 := cnt_le 2 (g + 1) k
      have hcM := cnt_le 2 14 M
      rw [g4] at hs
      rw [g5] at hc hc2
      clear hr g4 g5
      generalize k / 2 = q at hq g1 g2 g3 hs hc hc2
      go_wp2
      go_round
      case rel => exact ⟨q, c + 1, g, by go_num, by go_num, g1, g3, hs, by omega, by omega, by omega⟩
      case measure => simp [intOf]; omega
    · have hm2 : ¬ (k : Int) % 2 = 0 := by omega
      rw [strip_no hr] at hs
      rw [cnt_no hr, Nat.add_zero] at hc
      clear hr hkf hf14
      have HC2 : Hid (sTwos M = c) := Lib.hid hc
      have HS2 : Hid (strip 2 14 M = k) := Lib.hid hs
      have hcb : c ≤ 14 := by rw [← hc]; exact cnt_le _ _ _
      clear hs hc
      obtain ⟨N, rfl⟩ : ∃ N : Nat, N = k := ⟨_, rfl⟩
      obtain ⟨T, rfl⟩ : ∃ T : Nat, T = c := ⟨_, rfl⟩
      go_wp2
      go_loop [0, 6] (fun n t => ∃ k c f : Nat, n = .int .i64 (k : Int) ∧ t = .int .i64 (c : Int) ∧ 1 ≤ k ∧ k < 2 ^ f ∧ strip 3 14 N = strip 3 f k ∧ cnt 3 14 N = c + cnt 3 f k ∧ f ≤ 14 ∧ k ≤ 10000) (fun n _ => (intOf n).toNat)
      case atStart => exact ⟨N, 0, 14, rfl, rfl, hk1, by simp; omega, rfl, by omega, by omega, hkm⟩
      case round =>
        clear hk1 hkm hm2
        obtain ⟨k, c, f, rfl, rfl, hk1, hkf, hs, hc, hf14, hkm⟩ := hrel
        by_cases hr : k % 3 = 0
        · obtain ⟨g, rfl, g1, g2, g3, g4, g5⟩ := step_ok (by decide) hk1 hkf hr
          have hq : (k : Int) / 3 = ((k / 3 : Nat) : Int) := by omega
          have hm2 : (k : Int) % 3 = 0 := by omega
          have hc2 := cnt_le 3 (g + 1) k
          have hcM := cnt_le 3 14 N
          rw [g4] at hs
          rw [g5] at hc hc2
          clear hr g4 g5
          generalize k / 3 = q at hq g1 g2 g3 hs hc hc2
          go_wp2
          go_round
          case rel => exact ⟨q, c + 1, g, by go_num, by go_num, g1, g3, hs, by omega, by omega, by omega⟩
          case measure => simp [intOf]; omega
        · have hm2 : ¬ (k : Int) % 3 = 0 := by omega
          rw [strip_no hr] at hs
          rw [cnt_no hr, Nat.add_zero] at hc
          clear hr hkf hf14
          have HC3 : Hid (sThrees M = c) := Lib.hid (by rw [sThrees, HS2.out, hc])
          have HE3 : Hid (sEnd M = k) := Lib.hid (by rw [sEnd, HS2.out, hs])
          have hcb3 : c ≤ 14 := by rw [← hc]; exact cnt_le _ _ _
          clear hs hc
          obtain ⟨U, rfl⟩ : ∃ U : Nat, U = c := ⟨_, rfl⟩
          by_cases e1 : k = 1
          rotate_left
          · have HB2 : Hid (foldsB (M : Int) = false) := Lib.hid (by
              have := HAG.out
              simp only [agree, HE3.out, Bool.and_eq_true] at this
              rw [HB.out, ← eq_of_beq this.1]; simp [e1])
            have HV : Hid (FoldsForL (M : Int) = []) := Lib.hid (by simp [FoldsForL, HB2.out])
            have e1' : ((k : Int) != 1) = true := by simp; omega
            have e1'' : ¬ (k : Int) = 1 := by omega
            go_wp2
            exact bodyPost_ret (v := .tuple #[.slice (some ⟨w.heap.size, 0, none⟩) 0 0, .bool false]) (by simp [results, Try.results25, go_sem]) rfl (by rw [HV.out, HB2.out]; exact rowV_of rfl hown hi.below)
          subst e1
          have HB2 : Hid (foldsB (M : Int) = true ∧ sL M = stL M 3) := Lib.hid (by
              have := HAG.out
              simp only [agree, HE3.out, Bool.and_eq_true] at this
              have h2 := this.2
              simp at h2
              refine ⟨by rw [HB.out, ← eq_of_beq this.1]; simp, h2⟩)
          have HV : Hid (FoldsForL (M : Int) = List.replicate (T / 2) 4 ++ List.replicate U 3 ++ (if T % 2 = 1 then [2] else [])) := Lib.hid (by
              simp only [FoldsForL, HB2.out.1, if_true, Int.toNat_natCast]
              rw [← HB2.out.2, sL, HC2.out, HC3.out])
          have ht2 : (T : Int) / 2 = ((T / 2 : Nat) : Int) := by omega
          have htt : T / 2 ≤ 7 := by omega
          clear hm2 hk1 hkm
          generalize T / 2 = D at ht2 htt HV
          go_wp2
          go_loopw [4, 7] (fun v i wr => ∃ (j : Nat), j ≤ D ∧ i = .int .i64 j ∧ wr.ownsRow w.heap.size 3 1 v j (iv (List.replicate j 4)) ∧ In w.heap.size w wr) (fun _ i _ => D - (intOf i).toNat)
          case atStart => exact ⟨0, Nat.zero_le _, rfl, by simpa using hown, by (repeat (first | exact In.refl _ | assumption | apply In.alloc | apply In.drewN | apply In.drew | (refine In.step ?_ (by assumption))))⟩
          case round =>
            clear hown hi
            obtain ⟨j, hj, rfl, hown, hi⟩ := hrel
            obtain ⟨A1, c1, rfl⟩ := own_shape_i hown
            by_cases hlt : j < D
            · have HS : Hid (List.replicate (j + 1) (4 : Int) = (List.replicate j 4) ++ [4]) := Lib.hid (by (rw [rep_snoc]); try simp)
              generalize hL : List.replicate j (4 : Int) = L at hown HS
              clear hL
              have F1 : Hid (∀ u ∈ (#[Value.int .i64 ((4 : Int))] : Array Value).toList, u.oneCell' = true) := Lib.hid (by intro u hu; simp at hu; subst hu; rfl)
              have f12 : j + 1 ≤ maxLen := by unfold maxLen; omega
              have f13 : (j + 1) * 8 ≤ 140737488355328 := by omega
              have hB1 : w.heap.size ≤ wr.heap.size := In.size (B := w.heap.size) (a := w) (by (repeat (first | exact In.refl _ | assumption | apply In.alloc | apply In.drewN | apply In.drew | (refine In.step ?_ (by assumption)))))
              go_wp2_with (first | (go_at_call 42; refine (sIn _ _ _ _).mono ?_; rintro e w' ⟨rfl, rfl⟩) | (go_at_call 39; refine (iIn _ _ _ _).mono ?_; rintro e w' ⟨rfl, rfl⟩) | (at_builtin; refine wpList_app wr rfl (.tmp 37) (.tmp 38) 31 rfl w.heap.size 3 i0 (.int .i64 0) 1 8 Try.underlying31 hi0 hz0 hz1 hz2 rfl Nat.one_pos (.slice A1 j c1) (j) (iv (L)) rfl hown 1 #[.int .i64 ((4 : Int))] rfl rfl F1.out f12 f13 hB1 ?_; intro v1 w1 hown1 hbw1) | go_in | (go_end0; simp only []; go_at_K))
              have hi1 : In w.heap.size w w1 := In.wide hi hbw1
              have hown2 : w1.ownsRow w.heap.size 3 1 v1 (j + 1) (iv (List.replicate (j + 1) 4)) := by rw [HS.out, iv_app]; exact hown1
              clear hown1 hbw1 hown f12 f13 hB1
              go_wp2
              go_roundw
              case rel => exact ⟨j + 1, by omega, by go_num, hown2, hi1⟩
              case measure => simp [intOf]; omega
            · obtain rfl : D = j := by omega
              clear hj hlt
              go_wp2
              go_loopw [4, 8] (fun v i wr => ∃ (j : Nat), j ≤ U ∧ i = .int .i64 j ∧ wr.ownsRow w.heap.size 3 1 v (D + j) (iv (List.replicate D 4 ++ List.replicate j 3)) ∧ In w.heap.size w wr) (fun _ i _ => U - (intOf i).toNat)
              case atStart => exact ⟨0, Nat.zero_le _, rfl, by simpa using hown, by (repeat (first | exact In.refl _ | assumption | apply In.alloc | apply In.drewN | apply In.drew | (refine In.step ?_ (by assumption))))⟩
              case round =>
                clear hown hi
                obtain ⟨j, hj, rfl, hown, hi⟩ := hrel
                obtain ⟨A1, c1, rfl⟩ := own_shape_i hown
                by_cases hlt : j < U
                · have HS : Hid (List.replicate D 4 ++ List.replicate (j + 1) (3 : Int) = (List.replicate D 4 ++ List.replicate j 3) ++ [3]) := Lib.hid (by (rw [rep_snoc]); try simp)
                  generalize hL : List.replicate D 4 ++ List.replicate j (3 : Int) = L at hown HS
                  clear hL
                  have F1 : Hid (∀ u ∈ (#[Value.int .i64 ((3 : Int))] : Array Value).toList, u.oneCell' = true) := Lib.hid (by intro u hu; simp at hu; subst hu; rfl)
                  have f12 : (D + j) + 1 ≤ maxLen := by unfold maxLen; omega
                  have f13 : ((D + j) + 1) * 8 ≤ 140737488355328 := by omega
                  have hB1 : w.heap.size ≤ wr.heap.size := In.size (B := w.heap.size) (a := w) (by (repeat (first | exact In.refl _ | assumption | apply In.alloc | apply In.drewN | apply In.drew | (refine In.step ?_ (by assumption)))))
                  go_wp2_with (first | (go_at_call 42; refine (sIn _ _ _ _).mono ?_; rintro e w' ⟨rfl, rfl⟩) | (go_at_call 39; refine (iIn _ _ _ _).mono ?_; rintro e w' ⟨rfl, rfl⟩) | (at_builtin; refine wpList_app wr rfl (.tmp 45) (.tmp 46) 31 rfl w.heap.size 3 i0 (.int .i64 0) 1 8 Try.underlying31 hi0 hz0 hz1 hz2 rfl Nat.one_pos (.slice A1 (D + j) c1) ((D + j)) (iv (L)) rfl hown 1 #[.int .i64 ((3 : Int))] rfl rfl F1.out f12 f13 hB1 ?_; intro v1 w1 hown1 hbw1) | go_in | (go_end0; simp only []; go_at_K))
                  have hi1 : In w.heap.size w w1 := In.wide hi hbw1
                  have hown2 : w1.ownsRow w.heap.size 3 1 v1 (D + (j + 1)) (iv (List.replicate D 4 ++ List.replicate (j + 1) 3)) := by rw [HS.out, iv_app]; exact hown1
                  clear hown1 hbw1 hown f12 f13 hB1
                  go_wp2
                  go_roundw
                  case rel => exact ⟨j + 1, by omega, by go_num, hown2, hi1⟩
                  case measure => simp [intOf]; omega
                · obtain rfl : U = j := by omega
                  clear hj hlt
                  by_cases ho : T % 2 = 1
                  · have ho2 : (T : Int) % 2 = 1 := by omega
                    have HV2 : Hid (FoldsForL (M : Int) = (List.replicate D 4 ++ List.replicate U 3) ++ [2]) := Lib.hid (by rw [HV.out, if_pos ho])
                    have HL : Hid ((List.replicate D (4 : Int) ++ List.replicate U 3).length = D + U) := Lib.hid (by simp)
                    generalize List.replicate D (4 : Int) ++ List.replicate U 3 = L at hown HL HV2
                    have F1 : Hid (∀ u ∈ (#[Value.int .i64 ((2 : Int))] : Array Value).toList, u.oneCell' = true) := Lib.hid (by intro u hu; simp at hu; subst hu; rfl)
                    have f12 : (D + U) + 1 ≤ maxLen := by unfold maxLen; omega
                    have f13 : ((D + U) + 1) * 8 ≤ 140737488355328 := by omega
                    have hB1 : w.heap.size ≤ wr.heap.size := In.size (B := w.heap.size) (a := w) (by (repeat (first | exact In.refl _ | assumption | apply In.alloc | apply In.drewN | apply In.drew | (refine In.step ?_ (by assumption)))))
                    go_wp2_with (first | (go_at_call 42; refine (sIn _ _ _ _).mono ?_; rintro e w' ⟨rfl, rfl⟩) | (go_at_call 39; refine (iIn _ _ _ _).mono ?_; rintro e w' ⟨rfl, rfl⟩) | (at_builtin; refine wpList_app wr rfl (.tmp 51) (.tmp 52) 31 rfl w.heap.size 3 i0 (.int .i64 0) 1 8 Try.underlying31 hi0 hz0 hz1 hz2 rfl Nat.one_pos (.slice A1 (D + U) c1) ((D + U)) (iv (L)) rfl hown 1 #[.int .i64 ((2 : Int))] rfl rfl F1.out f12 f13 hB1 ?_; intro v1 w1 hown1 hbw1) | go_in | (go_end0; simp only []; go_at_K))
                    have hi1 : In w.heap.size w w1 := In.wide hi hbw1
                    have hown2 : w1.ownsRow w.heap.size 3 1 v1 (D + U + 1) (iv (L ++ [2])) := by rw [iv_app]; exact hown1
                    clear hown1 hbw1 hown f12 f13 hB1
                    obtain ⟨A2, c2, rfl⟩ := own_shape_i hown2
                    go_wp2
                    exact bodyPost_ret (v := .tuple #[.slice A2 (D + U + 1) c2, .bool true]) (by simp [results, Try.results25, go_sem]) rfl (by rw [HV2.out, HB2.out.1]; exact rowV_of (by simp [HL.out]) hown2 hi1.below)
                  · have ho2 : ¬ (T : Int) % 2 = 1 := by omega
                    have HV2 : Hid (FoldsForL (M : Int) = (List.replicate D 4 ++ List.replicate U 3)) := Lib.hid (by rw [HV.out, if_neg ho, List.append_nil])
                    go_wp2
                    exact bodyPost_ret (v := .tuple #[.slice A1 (D + U) c1, .bool true]) (by simp [results, Try.results25, go_sem]) rfl (by rw [HV2.out, HB2.out.1]; exact rowV_of (by simp) hown hi.below)
theorem own_nil (w : World) (B : Nat) : w.ownsRow B 3 1 (.slice none 0 0) 0 (iv []) := ⟨rfl, .inl ⟨rfl, rfl⟩⟩
set_option maxHeartbeats 4000000 in
theorem iFoldsFor (l : Int) (w : World) : Calls Try.prog 17 #[.int .i64 l] w (RowV (FoldsForL l) (.bool (foldsB l)) w) := by
  obtain ⟨i0, hi0, hz0, hz1, hz2⟩ := info_parts infoI
  cases h : inB l 1 10000
  · have HB : Hid (foldsB l = false) := Lib.hid (by simp [foldsB, h])
    have HV : Hid (FoldsForL l = []) := Lib.hid (by simp [FoldsForL, HB.out])
    go_enter Try.func17, Try.ntmps17
    go_wp2_with (first | (go_at_call 42; refine (sIn _ _ _ _).mono ?_; rintro e w' ⟨rfl, rfl⟩) | (go_at_call 39; refine (iIn _ _ _ _).mono ?_; rintro e w' ⟨rfl, rfl⟩) | go_in | (go_end0; simp only []; go_at_K))
    exact bodyPost_ret (v := .tuple #[.slice none 0 0, .bool false]) (by simp [results, Try.results17, go_sem]) rfl (by rw [HV.out, HB.out]; exact rowV_of rfl (own_nil _ _) (Below.refl _ _))
  obtain ⟨b1, b2⟩ := inB_tt h
  obtain ⟨M, rfl⟩ : ∃ n : Nat, l = n := ⟨l.toNat, by omega⟩
  have HB : Hid (foldsB (M : Int) = decide (stN M 3 = 1)) := Lib.hid (by simp [foldsB, h])
  go_enter Try.func17, Try.ntmps17
  go_wp2_with fail
  refine (iIn _ _ _ _).mono ?_
  rintro _ _ ⟨rfl, rfl⟩
  rw [h]
  clear h
  go_wp2
  go_loopw [0, 4, 5] (fun n v p wr => ∃ j q N : Nat, ∃ L : List Int, q + j = 4 ∧ 1 ≤ q ∧ p = .int .i64 (q : Int) ∧ N = stN M j ∧ L = stL M j ∧ n = .int .i64 (N : Int) ∧ wr.ownsRow w.heap.size 3 1 v L.length (iv L) ∧ In w.heap.size w wr) (fun _ _ p _ => (intOf p).toNat)
  case atStart => exact ⟨0, 4, M, [], rfl, by decide, rfl, rfl, rfl, rfl, own_nil _ _, by (repeat (first | exact In.refl _ | assumption | apply In.alloc | apply In.drewN | apply In.drew | (refine In.step ?_ (by assumption))))⟩
  case round =>
    obtain ⟨j, p, N, L, hpj, hp1, rfl, hN, hL, rfl, hown, hi⟩ := hrel
    obtain ⟨wo, hwo⟩ : ∃ wo : World, wo = wr := ⟨_, rfl⟩
    obtain ⟨A0, c0, rfl⟩ := own_shape_i hown
    have hNi := stN_in (l := M) (by omega) (by omega) j (by omega)
    have hLl := stL_len M j
    rw [← hN] at hNi
    rw [← hL] at hLl
    by_cases hp : 2 ≤ p
    · have HNN : Hid (stN M (j + 1) = strip p 14 N) := Lib.hid (by simp only [stN]; rw [show 4 - j = p by omega, hN])
      have HLL : Hid (stL M (j + 1) = L ++ List.replicate (cnt p 14 N) (p : Int)) := Lib.hid (by simp only [stL]; rw [show 4 - j = p by omega, hN, hL])
      clear hN hL
      generalize hB : L.length = B at hown hLl
      have HBL := Lib.hid hB
      clear hB
      go_wp2
      go_loopw [0, 4] (fun n v wr => ∃ k c f : Nat, n = .int .i64 (k : Int) ∧ 1 ≤ k ∧ k < 2 ^ f ∧ strip p 14 N = strip p f k ∧ cnt p 14 N = c + cnt p f k ∧ f ≤ 14 ∧ k ≤ 10000 ∧ wr.ownsRow w.heap.size 3 1 v (B + c) (iv (L ++ List.replicate c (p : Int))) ∧ In w.heap.size w wr) (fun n _ _ => (intOf n).toNat)
      case atStart => exact ⟨N, 0, 14, rfl, hNi.1, by simp; omega, rfl, by omega, by omega, hNi.2, by simpa using hown, hi⟩
      case round =>
        clear hown hi
        obtain ⟨k, c, f, rfl, hk1, hkf, hs, hc, hf14, hkm, hown, hi⟩ := hrel
        obtain ⟨A1, c1, rfl⟩ := own_shape_i hown
        by_cases hr : k % p = 0
        · obtain ⟨g, rfl, g1, g2, g3, g4, g5⟩ := step_ok hp hk1 hkf hr
          have hq : (k : Int) / (p : Int) = ((k / p : Nat) : Int) := by omega
          have hm2 : (k : Int) % (p : Int) = 0 := by omega
          have hcM := cnt_le p 14 N
          rw [g4] at hs
          rw [g5] at hc
          clear hr g4 g5
          generalize k / p = q at hq g1 g2 g3 hs hc
          have HS : Hid (L ++ List.replicate (c + 1) (p : Int) = (L ++ List.replicate c (p : Int)) ++ [(p : Int)]) := Lib.hid (by rw [rep_snoc]; simp)
          generalize hL2 : L ++ List.replicate c (p : Int) = L2 at hown HS
          clear hL2
          have F1 : Hid (∀ u ∈ (#[Value.int .i64 ((p : Int))] : Array Value).toList, u.oneCell' = true) := Lib.hid (by intro u hu; simp at hu; subst hu; rfl)
          have f12 : (B + c) + 1 ≤ maxLen := by unfold maxLen; omega
          have f13 : ((B + c) + 1) * 8 ≤ 140737488355328 := by omega
          have hB1 : w.heap.size ≤ wr.heap.size := In.size (B := w.heap.size) (a := w) (by (repeat (first | exact In.refl _ | assumption | apply In.alloc | apply In.drewN | apply In.drew | (refine In.step ?_ (by assumption)))))
          go_wp2_with (first | (go_at_call 42; refine (sIn _ _ _ _).mono ?_; rintro e w' ⟨rfl, rfl⟩) | (go_at_call 39; refine (iIn _ _ _ _).mono ?_; rintro e w' ⟨rfl, rfl⟩) | (at_builtin; refine wpList_app wr rfl (.tmp 17) (.tmp 19) 31 rfl w.heap.size 3 i0 (.int .i64 0) 1 8 Try.underlying31 hi0 hz0 hz1 hz2 rfl Nat.one_pos (.slice A1 (B + c) c1) ((B + c)) (iv (L2)) rfl hown 1 #[.int .i64 ((p : Int))] rfl rfl F1.out f12 f13 hB1 ?_; intro v1 w1 hown1 hbw1) | go_in | (go_end0; simp only []; go_at_K))
          have hi1 : In w.heap.size w w1 := In.wide hi hbw1
          have hown2 : w1.ownsRow w.heap.size 3 1 v1 (B + (c + 1)) (iv (L ++ List.replicate (c + 1) (p : Int))) := by rw [HS.out, iv_app]; exact hown1
          clear hown1 hbw1 hown f12 f13 hB1
          go_wp2
          go_roundw
          case rel => exact ⟨q, rfl, g1, c + 1, g, g3, rfl, by omega, by omega, by omega, hown2, hi1⟩
          case measure => simp [intOf]; omega
        · have hm2 : ¬ (k : Int) % (p : Int) = 0 := by omega
          rw [strip_no hr] at hs
          rw [cnt_no hr, Nat.add_zero] at hc
          clear hr hkf hf14
          go_wp2
          go_roundw
          case rel => exact ⟨j + 1, p - 1, k, L ++ List.replicate c (p : Int), by omega, by omega, by go_num, by rw [HNN.out, hs], by rw [HLL.out, hc], rfl, by rw [List.length_append, List.length_replicate, HBL.out]; exact hown, hi⟩
          case measure => simp [intOf]; omega
    · obtain rfl : p = 1 := by omega
      obtain rfl : j = 3 := by omega
      by_cases e1 : N = 1
      · have HB2 : Hid (foldsB (M : Int) = true) := Lib.hid (by rw [HB.out, ← hN]; simp [e1])
        have HV : Hid (FoldsForL (M : Int) = L) := Lib.hid (by simp [FoldsForL, HB2.out, hL])
        clear hN hL hNi
        subst e1
        go_wp2
        exact bodyPost_ret (v := .tuple #[.slice A0 L.length c0, .bool true]) (by simp [results, Try.results17, go_sem]) rfl (by rw [HV.out, HB2.out]; exact rowV_of rfl hown hi.below)
      · have HB2 : Hid (foldsB (M : Int) = false) := Lib.hid (by rw [HB.out, ← hN]; simp [e1])
        have HV : Hid (FoldsForL (M : Int) = []) := Lib.hid (by simp [FoldsForL, HB2.out])
        have e1' : ((N : Int) != 1) = true := by simp; omega
        have e1'' : ¬ (N : Int) = 1 := by omega
        clear hN hL
        go_wp2
        exact bodyPost_ret (v := .tuple #[.slice none 0 0, .bool false]) (by simp [results, Try.results17, go_sem]) rfl (by rw [HV.out, HB2.out]; exact rowV_of rfl (own_nil _ _) hi.below)
end Go.Proofs.Ytjcmdmiafeaeoab
