/- Chapter 11: FoldsFor, the walks. -/
import Derived.Test.YtgjbbidcpmglbaaF11
namespace Go.Proofs.Ytgjbbidcpmglbaa
open Go.ChangeShapes Go.WideShapes Go.ChangeAt Go.RowKit
set_option linter.unusedVariables false
set_option linter.unusedSimpArgs false

theorem rowV_of {a w : World} {A : Option Addr} {n c : Nat} {zs : List Int} {v : Value} (hl : zs.length = n) (ho : w.ownsRow a.heap.size 3 1 (.slice A n c) n (iv zs)) (hb : Below a.heap.size a w) : RowV zs v a (.returned (.tuple #[.slice A n c, v])) w := by
  subst hl; exact ⟨_, _, rfl, ho, hb⟩
theorem own_nil (w : World) (B : Nat) : w.ownsRow B 3 1 (.slice none 0 0) 0 (iv []) := ⟨rfl, .inl ⟨rfl, rfl⟩⟩
set_option maxRecDepth 20000 in
set_option maxHeartbeats 8000000 in
theorem iFoldsFor (l : Int) (w : World) : Calls Try.prog 35 #[.int .i64 l] w (RowV (FoldsForL l) (.bool (foldsB l)) w) := by
  obtain ⟨i0, hi0, hz0, hz1, hz2⟩ := info_parts infoI
  cases h : inB l 1 10000
  · have HB : Hid (foldsB l = false) := Lib.hid (by simp [foldsB, h])
    have HV : Hid (FoldsForL l = []) := Lib.hid (by simp [FoldsForL, HB.out])
    go_enter Try.func35, Try.ntmps35
    go_wp2_with (first | (go_at_call 66; refine (iIn _ _ _ _).mono ?_; rintro e w' ⟨rfl, rfl⟩) | go_in | (go_end0; simp only []; go_at_K))
    exact bodyPost_ret (v := .tuple #[.slice none 0 0, .bool false]) (by simp [results, Try.results35, go_sem]) rfl (by rw [HV.out, HB.out]; exact rowV_of rfl (own_nil _ _) (Below.refl _ _))
  obtain ⟨b1, b2⟩ := inB_tt h
  obtain ⟨M, rfl⟩ : ∃ n : Nat, l = n := ⟨l.toNat, by omega⟩
  have HB : Hid (foldsB (M : Int) = decide (stN M 3 = 1)) := Lib.hid (by simp [foldsB, h])
  go_enter Try.func35, Try.ntmps35
  go_wp2_with fail
  refine (iIn _ _ _ _).mono ?_
  rintro _ _ ⟨rfl, rfl⟩
  rw [h]
  clear h
  go_wp2
  go_loopw [0, 4, 5] (fun n v p wr => ∃ j q N : Nat, ∃ L : List Int, q + j = 4 ∧ 1 ≤ q ∧ p = .int .i64 (q : Int) ∧ N = stN M j ∧ L = stL M j ∧ n = .int .i64 (N : Int) ∧ wr.ownsRow w.heap.size 3 1 v L.length (iv L) ∧ In w.heap.size w wr) (fun _ _ p _ => (intOf p).toNat)
  case atStart => exact ⟨0, 4, M, [], rfl, by decide, rfl, rfl, rfl, rfl, own_nil _ _, by (repeat (first | exact In.refl _ | assumption | apply In.alloc | apply In.drewN | apply In.drew | (refine In.step ?_ (by assumption))))⟩
  case round =>
    obtain ⟨j, p, N, L, hpj, hp1, rfl, hN, hL, rfl, hown, hi⟩ := hrel
    obtain ⟨wo, hwo⟩ : ∃ wo : World, wo = wr := ⟨_, rfl⟩
    obtain ⟨A0, c0, rfl⟩ := own_shape_i hown
    have hNi := stN_in (l := M) (by omega) (by omega) j (by omega)
    have hLl := stL_len M j
    rw [← hN] at hNi
    rw [← hL] at hLl
    by_cases hp : 2 ≤ p
    · have HNN : Hid (stN M (j + 1) = strip p 14 N) := Lib.hid (by simp only [stN]; rw [show 4 - j = p by omega, hN])
      have HLL : Hid (stL M (j + 1) = L ++ List.replicate (cnt p 14 N) (p : Int)) := Lib.hid (by simp only [stL]; rw [show 4 - j = p by omega, hN, hL])
      clear hN hL
      generalize hB : L.length = B at hown hLl
      have HBL := Lib.hid hB
      clear hB
      go_wp2
      go_loopw [0, 4] (fun n v wr => ∃ k c f : Nat, n = .int .i64 (k : Int) ∧ 1 ≤ k ∧ k < 2 ^ f ∧ strip p 14 N = strip p f k ∧ cnt p 14 N = c + cnt p f k ∧ f ≤ 14 ∧ k ≤ 10000 ∧ wr.ownsRow w.heap.size 3 1 v (B + c) (iv (L ++ List.replicate c (p : Int))) ∧ In w.heap.size w wr) (fun n _ _ => (intOf n).toNat)
      case atStart => exact ⟨N, 0, 14, rfl, hNi.1, by simp; omega, rfl, by omega, by omega, hNi.2, by simpa using hown, hi⟩
      case round =>
        clear hown hi
        obtain ⟨k, c, f, rfl, hk1, hkf, hs, hc, hf14, hkm, hown, hi⟩ := hrel
        obtain ⟨A1, c1, rfl⟩ := own_shape_i hown
        by_cases hr : k % p = 0
        · obtain ⟨g, rfl, g1, g2, g3, g4, g5⟩ := step_ok hp hk1 hkf hr
          have hq : (k : Int) / (p : Int) = ((k / p : Nat) : Int) := by omega
          have hm2 : (k : Int) % (p : Int) = 0 := by omega
          have hcM := cnt_le p 14 N
          rw [g4] at hs
          rw [g5] at hc
          clear hr g4 g5
          generalize k / p = q at hq g1 g2 g3 hs hc
          have HS : Hid (L ++ List.replicate (c + 1) (p : Int) = (L ++ List.replicate c (p : Int)) ++ [(p : Int)]) := Lib.hid (by rw [rep_snoc]; simp)
          generalize hL2 : L ++ List.replicate c (p : Int) = L2 at hown HS
          clear hL2
          have F1 : Hid (∀ u ∈ (#[Value.int .i64 ((p : Int))] : Array Value).toList, u.oneCell' = true) := Lib.hid (by intro u hu; simp at hu; subst hu; rfl)
          have f12 : (B + c) + 1 ≤ maxLen := by unfold maxLen; omega
          have f13 : ((B + c) + 1) * 8 ≤ 140737488355328 := by omega
          have hB1 : w.heap.size ≤ wr.heap.size := In.size (B := w.heap.size) (a := w) (by (repeat (first | exact In.refl _ | assumption | apply In.alloc | apply In.drewN | apply In.drew | (refine In.step ?_ (by assumption)))))
          go_wp2_with (first | (go_at_call 66; refine (iIn _ _ _ _).mono ?_; rintro e w' ⟨rfl, rfl⟩) | (at_builtin; refine wpList_app wr rfl (.tmp 17) (.tmp 19) 27 rfl w.heap.size 3 i0 (.int .i64 0) 1 8 Try.underlying27 hi0 hz0 hz1 hz2 rfl Nat.one_pos (.slice A1 (B + c) c1) ((B + c)) (iv (L2)) rfl hown 1 #[.int .i64 ((p : Int))] rfl rfl F1.out f12 f13 hB1 ?_; intro v1 w1 hown1 hbw1) | go_in | (go_end0; simp only []; go_at_K))
          have hi1 : In w.heap.size w w1 := In.wide hi hbw1
          have hown2 : w1.ownsRow w.heap.size 3 1 v1 (B + (c + 1)) (iv (L ++ List.replicate (c + 1) (p : Int))) := by rw [HS.out, iv_app]; exact hown1
          clear hown1 hbw1 hown f12 f13 hB1
          go_wp2
          go_roundw
          case rel => exact ⟨q, rfl, g1, c + 1, g, g3, rfl, by omega, by omega, by omega, hown2, hi1⟩
          case measure => simp [intOf]; omega
        · have hm2 : ¬ (k : Int) % (p : Int) = 0 := by omega
          rw [strip_no hr] at hs
          rw [cnt_no hr, Nat.add_zero] at hc
          clear hr hkf hf14
          go_wp2
          go_roundw
          case rel => exact ⟨j + 1, p - 1, k, L ++ List.replicate c (p : Int), by omega, by omega, by go_num, by rw [HNN.out, hs], by rw [HLL.out, hc], rfl, by rw [List.length_append, List.length_replicate, HBL.out]; exact hown, hi⟩
          case measure => simp [intOf]; omega
    · obtain rfl : p = 1 := by omega
      obtain rfl : j = 3 := by omega
      by_cases e1 : N = 1
      · have HB2 : Hid (foldsB (M : Int) = true) := Lib.hid (by rw [HB.out, ← hN]; simp [e1])
        have HV : Hid (FoldsForL (M : Int) = L) := Lib.hid (by simp [FoldsForL, HB2.out, hL])
        clear hN hL hNi
        subst e1
        go_wp2
        exact bodyPost_ret (v := .tuple #[.slice A0 L.length c0, .bool true]) (by simp [results, Try.results35, go_sem]) rfl (by rw [HV.out, HB2.out]; exact rowV_of rfl hown hi.below)
      · have HB2 : Hid (foldsB (M : Int) = false) := Lib.hid (by rw [HB.out, ← hN]; simp [e1])
        have HV : Hid (FoldsForL (M : Int) = []) := Lib.hid (by simp [FoldsForL, HB2.out])
        have e1' : ((N : Int) != 1) = true := by simp; omega
        have e1'' : ¬ (N : Int) = 1 := by omega
        clear hN hL
        go_wp2
        exact bodyPost_ret (v := .tuple #[.slice none 0 0, .bool false]) (by simp [results, Try.results35, go_sem]) rfl (by rw [HV.out, HB2.out]; exact rowV_of rfl (own_nil _ _) hi.below)
end Go.Proofs.Ytgjbbidcpmglbaa
