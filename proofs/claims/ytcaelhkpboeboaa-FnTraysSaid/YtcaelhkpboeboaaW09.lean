/- Chapter 9: the walk of FnTrays. -/
import Derived.Test.YtcaelhkpboeboaaG09
import Derived.Test.YtcaelhkpboeboaaAt
import Derived.Test.YtcaelhkpboeboaaQuietL
import Derived.Deep.QuietTactic
import Derived.BigQuiet
import Derived.IntWalk
namespace Go.Proofs.Ytcaelhkpboeboaa
open Go.ChangeShapes Go.WideShapes Go.ChangeAt Go.RowKit
set_option linter.unusedVariables false
set_option linter.unusedSimpArgs false

theorem same_of {f : Nat} {xs : Array Value} {v u : Value} (e : v = u) (h : ∀ W, Calls Try.prog f xs W (Same v W)) : ∀ W, Calls Try.prog f xs W (Same u W) := by subst e; exact h
set_option maxHeartbeats 40000000 in
set_option maxRecDepth 100000 in
theorem walk_FnTrays (a0 : Option Addr) (len0 cap0 : Nat) (z0 : List Int) (w : World) (w0 : IsRow .u8 w a0 len0 cap0 z0) :
    Calls Try.prog 3 #[.slice a0 len0 cap0] w fun e w' => e = .returned (.bool true) ∧ Below w.heap.size w w' := by
  have hb := ReadsU.of_row w0
  have hm := hb.1
  clear w0
  by_cases hbig : (1048576 : Int) < (len0 : Int)
  · go_enter Try.func3, Try.ntmps3
    go_wp2_with fail
    refine (bigU _ _ _ _ hm true (by simpa using hbig)).mono ?_
    rintro e w' ⟨rfl, rfl⟩
    go_wp2_with fail
    go_ret
    exact ⟨rfl, Below.refl _ _⟩
  go_enter Try.func3, Try.ntmps3
  go_wp2_with fail
  refine (bigU _ _ _ _ hm false (by simpa using hbig)).mono ?_
  rintro e w' ⟨rfl, rfl⟩
  clear hbig hm
  go_wp2_with fail
  refine (at_c _ _ _ 0 _ (by omega) (by omega) hb).mono ?_
  rintro e w' ⟨x0, ⟨h00, h01⟩, rfl, rfl⟩
  go_wp2_with fail
  refine (at_c _ _ _ 1 _ (by omega) (by omega) hb).mono ?_
  rintro e w' ⟨x1, ⟨h10, h11⟩, rfl, rfl⟩
  go_wp2_with fail
  refine (at_c _ _ _ 2 _ (by omega) (by omega) hb).mono ?_
  rintro e w' ⟨x2, ⟨h20, h21⟩, rfl, rfl⟩
  go_wp2_with fail
  have hl : 1 ≤ 1 + x0 * 3 ∧ 1 + x0 * 3 ≤ 1000 := by omega
  have ha : 1 ≤ 1 + x1 % 60 ∧ 1 + x1 % 60 ≤ 60 := by omega
  have hg : 0 ≤ x2 % 20 ∧ x2 % 20 ≤ 19 := by omega
  generalize 1 + x0 * 3 = l at hl ⊢
  generalize 1 + x1 % 60 = a at ha ⊢
  generalize x2 % 20 = g at hg ⊢
  clear h00 h01 h10 h11 h20 h21
  have fa : 1 ≤ a ∧ a ≤ 500 := by omega
  have fg : 0 ≤ g ∧ g ≤ 100 := by omega
  obtain ⟨N, hN⟩ : ∃ N : Nat, rowsV l a g = N := ⟨(rowsV l a g).toNat, by have := (rows_fact hl fa fg).1; omega⟩
  have HN := Lib.hid hN
  have FN := rows_one hl fa fg
  have hN2 := (rows_in l a g).2
  rw [hN] at FN hN2
  clear hN
  obtain ⟨f1, f2, f3, f4, f5, f6⟩ := FN
  refine (iRowsFor l a g _).mono ?_
  rintro e w' ⟨rfl, rfl⟩
  rw [HN.out]
  go_wp2_with fail
  refine (iPlacesOfR l a g _).mono ?_
  rintro e w1 ⟨A, cA, rfl, ho, hb1⟩
  have hr := reads_own_i ho
  clear ho
  have hlen : (PlacesOfL l a g).length = N := by unfold PlacesOfL; rw [plL_len, HN.out]; rfl
  rw [hlen] at hr
  rw [hlen]
  have hp : ∀ k, k < N → (PlacesOfL l a g).getD k 0 = (k : Int) * (a + g) := fun k hk => by unfold PlacesOfL; rw [HN.out]; exact plL_at _ _ _ hk
  have hq : ∀ k, k < N → 0 ≤ (k : Int) * (a + g) ∧ (k : Int) * (a + g) + a ≤ l := fun k hk => place_fact hl fa fg k (by rw [HN.out]; omega)
  generalize PlacesOfL l a g = ps at hr hp
  have HP := Lib.hid hp
  have HQ := Lib.hid hq
  clear hp hq hlen
  have i1 : In w.heap.size w w1 := In.step (In.refl w) hb1
  have hb2 : ReadsU w1 a0 len0 := hb.in_ i1
  clear hb1 hb
  have F1 := Lib.hid f1
  clear f1
  as_aux_lemma =>
   by_cases hz : 0 < (N : Int)
   · skip
     as_aux_lemma =>
      have f1 := F1.out hz
      have f1' : decide (0 < (N : Int)) = true := by simp; omega
      go_wp2
      clear f1 f1' f2 f3 f4 f5 f6
      go_loopw [8] (fun i wr => ∃ k : Nat, k ≤ N ∧ i = .int .i64 k ∧ In w1.heap.size w1 wr) (fun i _ => N - (intOf i).toNat)
      case atStart => exact ⟨0, Nat.zero_le _, rfl, In.refl _⟩
      case round =>
        obtain ⟨k, hk, rfl, ik⟩ := hrel
        by_cases hlt : k < N
        · skip
          as_aux_lemma =>
           have rk : ReadsI wr A N ps := hr.below ik.below (Nat.le_refl _)
           obtain ⟨ad, rfl, ck⟩ := rk.2 k hlt
           rw [HP.out k hlt] at ck
           obtain ⟨q1, q2⟩ := HQ.out k hlt
           have hkN : (k : Int) < (N : Int) := by omega
           have hk1 : (0 : Int) ≤ (k : Int) := by omega
           have hkm : (k : Int) ≤ 1100 := by omega
           by_cases hk0 : 0 < k
           · have hk0' : (0 : Int) < (k : Int) := by omega
             obtain ⟨j, hj⟩ : ∃ j, k = j + 1 := ⟨k - 1, by omega⟩
             obtain ⟨ad', e', cj⟩ := rk.2 j (by omega)
             cases e'
             rw [HP.out j (by omega)] at cj
             have hx : (k : Int) * (a + g) = (j : Int) * (a + g) + (a + g) := by rw [hj]; push_cast; rw [Int.add_mul]; omega
             obtain ⟨r1, r2⟩ := HQ.out j (by omega)
             generalize (k : Int) * (a + g) = x at ck q1 q2 hx
             generalize (j : Int) * (a + g) = y at cj r1 r2 hx
             have hjN : (j : Int) < (N : Int) := by omega
             have hj0 : (0 : Int) ≤ (j : Int) := by omega
             have n1 : decide (x < 0) = false := by simp; omega
             have n2 : decide (l < x + a) = false := by simp; omega
             have n3 : decide ((0 : Int) < (k : Int)) = true := by simp; omega
             have W1 : IntKind.i64.wrap (x + a) = x + a := IntWalk.i64_in _ (by omega)
             have W2 : IntKind.i64.wrap ((k : Int) - 1) = (j : Int) := by rw [IntWalk.i64_in _ (by omega)]; omega
             have W3 : IntKind.i64.wrap (x - y) = a + g := by rw [IntWalk.i64_in _ (by omega)]; omega
             have W4 : IntKind.i64.wrap (a + g) = a + g := IntWalk.i64_in _ (by omega)
             clear hj hx rk
             go_wp2
             refine wp_region_S (C := (fun w' => In w1.heap.size w1 w' ∧ w'.cell? (ad.add k) = some (.int .i64 x) ∧ w'.cell? (ad.add j) = some (.int .i64 y))) (by kernel_rfl) (by kernel_rfl) ?_ ?_
             · exact ⟨ik.drew, ck, cj⟩
             repeat (first | go_big_quiet_skip | (go_big_quiet_want; first | (refine quiet_ex ?_; apply Exists.intro; refine ⟨fun W hW => ?_, ?_⟩; (· (obtain ⟨ik2, ck2, cj2⟩ := hW; go_simp; (first | done | with_reducible rfl | rfl))); simp only [Act.put, List.setIfInBounds_toArray, List.set_cons_zero, List.set_cons_succ]; go_big_quiet_on) | (refine quiet_ex ?_; apply Exists.intro; refine ⟨fun W hW => ?_, ?_⟩; (· (go_simp; first | (fail))); simp only [Act.put, List.setIfInBounds_toArray, List.set_cons_zero, List.set_cons_succ]; go_big_quiet_on)))
             refine wpQuiet_nil ?_
             rintro w' ⟨ik2, ck2, cj2⟩
             clear W1 W2 W3 W4
             go_wp2
             go_roundw
             case rel => exact ⟨k + 1, by omega, by go_num, by (repeat (first | exact In.refl _ | assumption | apply In.alloc | apply In.drewN | apply In.drew | (refine In.step ?_ (by assumption))))⟩
             case measure => simp [intOf]; omega
           · have n3 : decide ((0 : Int) < (k : Int)) = false := by simp; omega
             generalize (k : Int) * (a + g) = x at ck q1 q2
             have n1 : decide (x < 0) = false := by simp; omega
             have n2 : decide (l < x + a) = false := by simp; omega
             have W1 : IntKind.i64.wrap (x + a) = x + a := IntWalk.i64_in _ (by omega)
             clear rk
             go_wp2
             refine wp_region_S (C := (fun w' => In w1.heap.size w1 w' ∧ w'.cell? (ad.add k) = some (.int .i64 x))) (by kernel_rfl) (by kernel_rfl) ?_ ?_
             · exact ⟨ik.drew, ck⟩
             repeat (first | go_big_quiet_skip | (go_big_quiet_want; first | (refine quiet_ex ?_; apply Exists.intro; refine ⟨fun W hW => ?_, ?_⟩; (· (obtain ⟨ik2, ck2⟩ := hW; go_simp; (first | done | with_reducible rfl | rfl))); simp only [Act.put, List.setIfInBounds_toArray, List.set_cons_zero, List.set_cons_succ]; go_big_quiet_on) | (refine quiet_ex ?_; apply Exists.intro; refine ⟨fun W hW => ?_, ?_⟩; (· (go_simp; first | (fail))); simp only [Act.put, List.setIfInBounds_toArray, List.set_cons_zero, List.set_cons_succ]; go_big_quiet_on)))
             refine wpQuiet_nil ?_
             rintro w' ⟨ik2, ck2⟩
             clear W1
             go_wp2
             go_roundw
             case rel => exact ⟨k + 1, by omega, by go_num, by (repeat (first | exact In.refl _ | assumption | apply In.alloc | apply In.drewN | apply In.drew | (refine In.step ?_ (by assumption))))⟩
             case measure => simp [intOf]; omega
        · skip
          as_aux_lemma =>
           obtain rfl : k = N := by omega
           have hb3 : ReadsU wr a0 len0 := hb2.in_ ik
           have i3 : In w.heap.size w wr := i1.trans ik
           clear ik hb2 i1 hr HP HQ F1
           go_wp2_with fail
           refine (at_c _ _ _ 3 _ (by omega) (by omega) hb3).mono ?_
           rintro e w' ⟨x3, ⟨h30, h31⟩, rfl, rfl⟩
           go_wp2_with fail
           refine (at_c _ _ _ 4 _ (by omega) (by omega) hb3).mono ?_
           rintro e w' ⟨x4, ⟨h40, h41⟩, rfl, rfl⟩
           go_wp2_with fail
           have fy : 1 ≤ 1 + x3 ∧ 1 + x3 ≤ 1000 := by omega
           have fb : 1 ≤ 1 + x4 % 40 ∧ 1 + x4 % 40 ≤ 500 := by omega
           generalize 1 + x3 = y at fy ⊢
           generalize 1 + x4 % 40 = b at fb ⊢
           clear h30 h31 h40 h41
           have T0 := tray_fact hl fy fa fb fg
           have T1 := (tray_in l y a b g).2
           have T2 := fun n (h : 0 ≤ n ∧ n ≤ 255) (p : 0 < trayV l y a b g) => trays_pos (n := n) p h
           have T3 := fun n (p : trayV l y a b g ≤ 0) => trays_zero (n := n) p
           have C0 := fun W => iOnTray l y a b g W
           have C1 := same_of (congrArg i64 (tray_swap l y a b g)) (fun W => iOnTray y l a b g W)
           have C2 := same_of (congrArg i64 (tray_turn l y a b g)) (fun W => iOnTray l y b a g W)
           have C3 := fun W => iRowsFor y b g W
           have R3 := rows_in y b g
           have R4 := prod_in l y a b g
           rw [HN.out] at T0 R4
           have C4 := fun n W => iTraysFor n l y a b g W
           generalize hV : traysV = V at T2 T3 C4
           have T2 := Lib.hid T2
           have T3 := Lib.hid T3
           clear hV
           generalize trayV l y a b g = t at *
           generalize rowsV y b g = r at *
           have C0 := Lib.hid C0
           have C1 := Lib.hid C1
           have C2 := Lib.hid C2
           have C3 := Lib.hid C3
           have C4 := Lib.hid C4
           refine (C0.out _).mono ?_
           rintro e w' ⟨rfl, rfl⟩
           go_wp2_with fail
           refine (at_c _ _ _ 5 _ (by omega) (by omega) hb3).mono ?_
           rintro e w' ⟨m, ⟨h50, h51⟩, rfl, rfl⟩
           clear hb3
           go_wp2_with fail
           refine (C4.out m _).mono ?_
           rintro e w' ⟨rfl, rfl⟩
           as_aux_lemma =>
            obtain ⟨kr, hkr⟩ : ∃ kr, (k : Int) * r = kr := ⟨_, rfl⟩
            rw [hkr] at T0
            have W1 : IntKind.i64.wrap ((k : Int) * r) = kr := by rw [hkr]; exact IntWalk.i64_in _ (by omega)
            have W0 : IntKind.i64.wrap (0 * r) = 0 := by rw [Int.zero_mul]; rfl
            have W00 : IntKind.i64.wrap 0 = 0 := rfl
            have HT2 := T2.out m ⟨h50, h51⟩
            have HT3 := T3.out m
            generalize V m l y a b g = v at *
            obtain ⟨z, hwz⟩ : ∃ z, widestV l a 3 = z := ⟨_, rfl⟩
            have HX := Lib.hid (widest_fact hl fa)
            have HG := Lib.hid (fun W => iWidestGap l a 3 W)
            rw [hwz] at HX HG
            clear hkr hwz T2 T3
            by_cases ht : 0 < t
            · skip
              as_aux_lemma =>
               obtain ⟨v0, v1, v2, v3, v4, v5⟩ := HT2 ht
               obtain ⟨VT, hVT⟩ : ∃ x, v * t = x := ⟨_, rfl⟩
               obtain ⟨UT, hUT⟩ : ∃ x, (v - 1) * t = x := ⟨_, rfl⟩
               obtain ⟨M, hM⟩ : ∃ x, max m 1 = x := ⟨_, rfl⟩
               rw [hVT] at v2 v4
               rw [hUT, hM] at v3
               rw [hUT] at v5
               have b1 : decide (t < 0) = false := by simp; omega
               have b2 : decide (0 ≤ v) = true := by simp; omega
               have b3 : decide (0 < t) = true := by simp; omega
               have b4 : decide (VT < m) = false := by simp; omega
               have b5 : decide (M ≤ UT) = false := by simp; omega
               have b6 : decide (t < kr) = false := by simp; omega
               have W2 : IntKind.i64.wrap (v * t) = VT := by rw [hVT]; exact IntWalk.i64_in _ (by omega)
               have W3 : IntKind.i64.wrap (v - 1) = v - 1 := IntWalk.i64_in _ (by omega)
               have W4 : IntKind.i64.wrap ((v - 1) * t) = UT := by rw [hUT]; exact IntWalk.i64_in _ (by omega)
               have mx1 : (if 1 < m then m else 1) = M := by split <;> omega
               have mx2 : (if m < 1 then 1 else m) = M := by split <;> omega
               clear hVT hUT hM v2 v3 v4 v5 HT2 HT3
               simp only []
               iterate 9 go_step
               refine wp_region_L (C := (fun w' => In w.heap.size w w')) ?_ ?_
               · exact i3
               repeat (first | go_big_quiet_skip | (go_big_quiet_want; first | (refine quiet_ex ?_; apply Exists.intro; refine ⟨fun W hW => ?_, ?_⟩; (· (obtain i5 := hW; go_simp; (first | done | with_reducible rfl | rfl))); simp only [Act.put, List.setIfInBounds_toArray, List.set_cons_zero, List.set_cons_succ]; go_big_quiet_on) | (refine quiet_ex ?_; apply Exists.intro; refine ⟨fun W hW => ?_, ?_⟩; (· (go_simp; first | (go_at_call 8; (with_reducible refine (C1.out _).mono ?_); rintro e w2 ⟨rfl, rfl⟩; exact ⟨rfl, hW⟩) | (go_at_call 8; (with_reducible refine (C2.out _).mono ?_); rintro e w2 ⟨rfl, rfl⟩; exact ⟨rfl, hW⟩) | (go_at_call 6; (with_reducible refine (C3.out _).mono ?_); rintro e w2 ⟨rfl, rfl⟩; exact ⟨rfl, hW⟩))); simp only [Act.put, List.setIfInBounds_toArray, List.set_cons_zero, List.set_cons_succ]; go_big_quiet_on)))
               refine wpQuiet_nil ?_
               rintro w' i5
               as_aux_lemma =>
                clear W0 W00 W1 W2 W3 W4 mx1 mx2 b1 b2 b3 b4 b5 b6
                go_wp2_with fail
                refine (HG.out _).mono ?_
                rintro e w' ⟨rfl, rfl⟩
                have H80 := Lib.hid (fun W => iRowsFor 80 20 10 W)
                rw [rows_80] at H80
                have W3a : IntKind.i64.wrap (3 * a) = 3 * a := IntWalk.i64_in _ (by omega)
                rcases HX.out with ⟨rfl, h3⟩ | ⟨z0, z1, h3, z3, z4⟩
                · have b1 : decide (3 * a ≤ l) = false := by simp; omega
                  simp only []
                  iterate 8 go_step
                  refine wp_region_L (C := (fun w' => In w.heap.size w w')) ?_ ?_
                  · exact i5
                  repeat (first | go_big_quiet_skip | (go_big_quiet_want; first | (refine quiet_ex ?_; apply Exists.intro; refine ⟨fun W hW => ?_, ?_⟩; (· (obtain i6 := hW; go_simp; (first | done | with_reducible rfl | rfl))); simp only [Act.put, List.setIfInBounds_toArray, List.set_cons_zero, List.set_cons_succ]; go_big_quiet_on) | (refine quiet_ex ?_; apply Exists.intro; refine ⟨fun W hW => ?_, ?_⟩; (· (go_simp; first | (go_at_call 6; (with_reducible refine (H80.out _).mono ?_); rintro e w2 ⟨rfl, rfl⟩; exact ⟨rfl, hW⟩))); simp only [Act.put, List.setIfInBounds_toArray, List.set_cons_zero, List.set_cons_succ]; go_big_quiet_on)))
                  refine wpQuiet_nil ?_
                  rintro w' i6
                  go_wp2
                  go_ret
                  exact ⟨ret_bool rfl, i6.below⟩
                · have b1 : decide (3 * a ≤ l) = true := by simp; omega
                  have HR := Lib.hid (fun W => iRowsFor l a z W)
                  have HS := Lib.hid (fun W => iRowsFor l a (z + 1) W)
                  generalize rowsV l a z = R at HR z3
                  generalize rowsV l a (z + 1) = R2 at HS z4
                  have b2 : decide (3 ≤ R) = true := by simp; omega
                  by_cases hz1 : z = 100
                  · subst hz1
                    as_aux_lemma =>
                     simp only []
                     iterate 8 go_step
                     refine wp_region_L (C := (fun w' => In w.heap.size w w')) ?_ ?_
                     · exact i5
                     repeat (first | go_big_quiet_skip | (go_big_quiet_want; first | (refine quiet_ex ?_; apply Exists.intro; refine ⟨fun W hW => ?_, ?_⟩; (· (obtain i6 := hW; go_simp; (first | done | with_reducible rfl | rfl))); simp only [Act.put, List.setIfInBounds_toArray, List.set_cons_zero, List.set_cons_succ]; go_big_quiet_on) | (refine quiet_ex ?_; apply Exists.intro; refine ⟨fun W hW => ?_, ?_⟩; (· (go_simp; first | (go_at_call 6; (with_reducible refine (HR.out _).mono ?_); rintro e w2 ⟨rfl, rfl⟩; exact ⟨rfl, hW⟩) | (go_at_call 6; (with_reducible refine (H80.out _).mono ?_); rintro e w2 ⟨rfl, rfl⟩; exact ⟨rfl, hW⟩))); simp only [Act.put, List.setIfInBounds_toArray, List.set_cons_zero, List.set_cons_succ]; go_big_quiet_on)))
                     refine wpQuiet_nil ?_
                     rintro w' i6
                     go_wp2
                     go_ret
                     exact ⟨ret_bool rfl, i6.below⟩
                  · skip
                    as_aux_lemma =>
                     have b3 : decide (z < 0) = false := by simp; omega
                     have b4 : decide (z = 100) = false := by simp; omega
                     have b7 : (z == 100) = false := by simpa using hz1
                     have b5 : decide (R2 < 3) = true := by simp; omega
                     have b6 : decide (0 ≤ z) = true := by simp; omega
                     have W5 : IntKind.i64.wrap (z + 1) = z + 1 := IntWalk.i64_in _ (by omega)
                     simp only []
                     iterate 8 go_step
                     refine wp_region_L (C := (fun w' => In w.heap.size w w')) ?_ ?_
                     · exact i5
                     repeat (first | go_big_quiet_skip | (go_big_quiet_want; first | (refine quiet_ex ?_; apply Exists.intro; refine ⟨fun W hW => ?_, ?_⟩; (· (obtain i6 := hW; go_simp; (first | done | with_reducible rfl | rfl))); simp only [Act.put, List.setIfInBounds_toArray, List.set_cons_zero, List.set_cons_succ]; go_big_quiet_on) | (refine quiet_ex ?_; apply Exists.intro; refine ⟨fun W hW => ?_, ?_⟩; (· (go_simp; first | (go_at_call 6; (with_reducible refine (HR.out _).mono ?_); rintro e w2 ⟨rfl, rfl⟩; exact ⟨rfl, hW⟩) | (go_at_call 6; (with_reducible refine (HS.out _).mono ?_); rintro e w2 ⟨rfl, rfl⟩; exact ⟨rfl, hW⟩) | (go_at_call 6; (with_reducible refine (H80.out _).mono ?_); rintro e w2 ⟨rfl, rfl⟩; exact ⟨rfl, hW⟩))); simp only [Act.put, List.setIfInBounds_toArray, List.set_cons_zero, List.set_cons_succ]; go_big_quiet_on)))
                     refine wpQuiet_nil ?_
                     rintro w' i6
                     go_wp2
                     go_ret
                     exact ⟨ret_bool rfl, i6.below⟩
            · skip
              as_aux_lemma =>
               obtain rfl : v = -1 := HT3 (by omega)
               obtain rfl : t = 0 := by omega
               have b6 : decide (0 < kr) = false := by simp; omega
               clear HT2 HT3
               simp only []
               iterate 9 go_step
               refine wp_region_L (C := (fun w' => In w.heap.size w w')) ?_ ?_
               · exact i3
               repeat (first | go_big_quiet_skip | (go_big_quiet_want; first | (refine quiet_ex ?_; apply Exists.intro; refine ⟨fun W hW => ?_, ?_⟩; (· (obtain i5 := hW; go_simp; (first | done | with_reducible rfl | rfl))); simp only [Act.put, List.setIfInBounds_toArray, List.set_cons_zero, List.set_cons_succ]; go_big_quiet_on) | (refine quiet_ex ?_; apply Exists.intro; refine ⟨fun W hW => ?_, ?_⟩; (· (go_simp; first | (go_at_call 8; (with_reducible refine (C1.out _).mono ?_); rintro e w2 ⟨rfl, rfl⟩; exact ⟨rfl, hW⟩) | (go_at_call 8; (with_reducible refine (C2.out _).mono ?_); rintro e w2 ⟨rfl, rfl⟩; exact ⟨rfl, hW⟩) | (go_at_call 6; (with_reducible refine (C3.out _).mono ?_); rintro e w2 ⟨rfl, rfl⟩; exact ⟨rfl, hW⟩))); simp only [Act.put, List.setIfInBounds_toArray, List.set_cons_zero, List.set_cons_succ]; go_big_quiet_on)))
               refine wpQuiet_nil ?_
               rintro w' i5
               as_aux_lemma =>
                clear W0 W00 W1 b6
                go_wp2_with fail
                refine (HG.out _).mono ?_
                rintro e w' ⟨rfl, rfl⟩
                have H80 := Lib.hid (fun W => iRowsFor 80 20 10 W)
                rw [rows_80] at H80
                have W3a : IntKind.i64.wrap (3 * a) = 3 * a := IntWalk.i64_in _ (by omega)
                rcases HX.out with ⟨rfl, h3⟩ | ⟨z0, z1, h3, z3, z4⟩
                · have b1 : decide (3 * a ≤ l) = false := by simp; omega
                  simp only []
                  iterate 8 go_step
                  refine wp_region_L (C := (fun w' => In w.heap.size w w')) ?_ ?_
                  · exact i5
                  repeat (first | go_big_quiet_skip | (go_big_quiet_want; first | (refine quiet_ex ?_; apply Exists.intro; refine ⟨fun W hW => ?_, ?_⟩; (· (obtain i6 := hW; go_simp; (first | done | with_reducible rfl | rfl))); simp only [Act.put, List.setIfInBounds_toArray, List.set_cons_zero, List.set_cons_succ]; go_big_quiet_on) | (refine quiet_ex ?_; apply Exists.intro; refine ⟨fun W hW => ?_, ?_⟩; (· (go_simp; first | (go_at_call 6; (with_reducible refine (H80.out _).mono ?_); rintro e w2 ⟨rfl, rfl⟩; exact ⟨rfl, hW⟩))); simp only [Act.put, List.setIfInBounds_toArray, List.set_cons_zero, List.set_cons_succ]; go_big_quiet_on)))
                  refine wpQuiet_nil ?_
                  rintro w' i6
                  go_wp2
                  go_ret
                  exact ⟨ret_bool rfl, i6.below⟩
                · have b1 : decide (3 * a ≤ l) = true := by simp; omega
                  have HR := Lib.hid (fun W => iRowsFor l a z W)
                  have HS := Lib.hid (fun W => iRowsFor l a (z + 1) W)
                  generalize rowsV l a z = R at HR z3
                  generalize rowsV l a (z + 1) = R2 at HS z4
                  have b2 : decide (3 ≤ R) = true := by simp; omega
                  by_cases hz1 : z = 100
                  · subst hz1
                    as_aux_lemma =>
                     simp only []
                     iterate 8 go_step
                     refine wp_region_L (C := (fun w' => In w.heap.size w w')) ?_ ?_
                     · exact i5
                     repeat (first | go_big_quiet_skip | (go_big_quiet_want; first | (refine quiet_ex ?_; apply Exists.intro; refine ⟨fun W hW => ?_, ?_⟩; (· (obtain i6 := hW; go_simp; (first | done | with_reducible rfl | rfl))); simp only [Act.put, List.setIfInBounds_toArray, List.set_cons_zero, List.set_cons_succ]; go_big_quiet_on) | (refine quiet_ex ?_; apply Exists.intro; refine ⟨fun W hW => ?_, ?_⟩; (· (go_simp; first | (go_at_call 6; (with_reducible refine (HR.out _).mono ?_); rintro e w2 ⟨rfl, rfl⟩; exact ⟨rfl, hW⟩) | (go_at_call 6; (with_reducible refine (H80.out _).mono ?_); rintro e w2 ⟨rfl, rfl⟩; exact ⟨rfl, hW⟩))); simp only [Act.put, List.setIfInBounds_toArray, List.set_cons_zero, List.set_cons_succ]; go_big_quiet_on)))
                     refine wpQuiet_nil ?_
                     rintro w' i6
                     go_wp2
                     go_ret
                     exact ⟨ret_bool rfl, i6.below⟩
                  · skip
                    as_aux_lemma =>
                     have b3 : decide (z < 0) = false := by simp; omega
                     have b4 : decide (z = 100) = false := by simp; omega
                     have b7 : (z == 100) = false := by simpa using hz1
                     have b5 : decide (R2 < 3) = true := by simp; omega
                     have b6 : decide (0 ≤ z) = true := by simp; omega
                     have W5 : IntKind.i64.wrap (z + 1) = z + 1 := IntWalk.i64_in _ (by omega)
                     simp only []
                     iterate 8 go_step
                     refine wp_region_L (C := (fun w' => In w.heap.size w w')) ?_ ?_
                     · exact i5
                     repeat (first | go_big_quiet_skip | (go_big_quiet_want; first | (refine quiet_ex ?_; apply Exists.intro; refine ⟨fun W hW => ?_, ?_⟩; (· (obtain i6 := hW; go_simp; (first | done | with_reducible rfl | rfl))); simp only [Act.put, List.setIfInBounds_toArray, List.set_cons_zero, List.set_cons_succ]; go_big_quiet_on) | (refine quiet_ex ?_; apply Exists.intro; refine ⟨fun W hW => ?_, ?_⟩; (· (go_simp; first | (go_at_call 6; (with_reducible refine (HR.out _).mono ?_); rintro e w2 ⟨rfl, rfl⟩; exact ⟨rfl, hW⟩) | (go_at_call 6; (with_reducible refine (HS.out _).mono ?_); rintro e w2 ⟨rfl, rfl⟩; exact ⟨rfl, hW⟩) | (go_at_call 6; (with_reducible refine (H80.out _).mono ?_); rintro e w2 ⟨rfl, rfl⟩; exact ⟨rfl, hW⟩))); simp only [Act.put, List.setIfInBounds_toArray, List.set_cons_zero, List.set_cons_succ]; go_big_quiet_on)))
                     refine wpQuiet_nil ?_
                     rintro w' i6
                     go_wp2
                     go_ret
                     exact ⟨ret_bool rfl, i6.below⟩
   · skip
     as_aux_lemma =>
      have f1 := hz
      have e0 : (N : Int) = 0 := by omega
      have hla : l < a := by rw [e0] at f2; omega
      go_wp2
      clear f1 f2 f3 f4 f5 f6
      go_loopw [8] (fun i wr => ∃ k : Nat, k ≤ N ∧ i = .int .i64 k ∧ In w1.heap.size w1 wr) (fun i _ => N - (intOf i).toNat)
      case atStart => exact ⟨0, Nat.zero_le _, rfl, In.refl _⟩
      case round =>
        obtain ⟨k, hk, rfl, ik⟩ := hrel
        obtain rfl : k = N := by omega
        skip
        have hb3 : ReadsU wr a0 len0 := hb2.in_ ik
        have i3 : In w.heap.size w wr := i1.trans ik
        clear ik hb2 i1 hr HP HQ F1
        go_wp2_with fail
        refine (at_c _ _ _ 3 _ (by omega) (by omega) hb3).mono ?_
        rintro e w' ⟨x3, ⟨h30, h31⟩, rfl, rfl⟩
        go_wp2_with fail
        refine (at_c _ _ _ 4 _ (by omega) (by omega) hb3).mono ?_
        rintro e w' ⟨x4, ⟨h40, h41⟩, rfl, rfl⟩
        go_wp2_with fail
        have fy : 1 ≤ 1 + x3 ∧ 1 + x3 ≤ 1000 := by omega
        have fb : 1 ≤ 1 + x4 % 40 ∧ 1 + x4 % 40 ≤ 500 := by omega
        generalize 1 + x3 = y at fy ⊢
        generalize 1 + x4 % 40 = b at fb ⊢
        clear h30 h31 h40 h41
        have T0 := tray_fact hl fy fa fb fg
        have T1 := (tray_in l y a b g).2
        have T2 := fun n (h : 0 ≤ n ∧ n ≤ 255) (p : 0 < trayV l y a b g) => trays_pos (n := n) p h
        have T3 := fun n (p : trayV l y a b g ≤ 0) => trays_zero (n := n) p
        have C0 := fun W => iOnTray l y a b g W
        have C1 := same_of (congrArg i64 (tray_swap l y a b g)) (fun W => iOnTray y l a b g W)
        have C2 := same_of (congrArg i64 (tray_turn l y a b g)) (fun W => iOnTray l y b a g W)
        have C3 := fun W => iRowsFor y b g W
        have R3 := rows_in y b g
        have R4 := prod_in l y a b g
        rw [HN.out] at T0 R4
        have C4 := fun n W => iTraysFor n l y a b g W
        generalize hV : traysV = V at T2 T3 C4
        have T2 := Lib.hid T2
        have T3 := Lib.hid T3
        clear hV
        generalize trayV l y a b g = t at *
        generalize rowsV y b g = r at *
        have C0 := Lib.hid C0
        have C1 := Lib.hid C1
        have C2 := Lib.hid C2
        have C3 := Lib.hid C3
        have C4 := Lib.hid C4
        refine (C0.out _).mono ?_
        rintro e w' ⟨rfl, rfl⟩
        go_wp2_with fail
        refine (at_c _ _ _ 5 _ (by omega) (by omega) hb3).mono ?_
        rintro e w' ⟨m, ⟨h50, h51⟩, rfl, rfl⟩
        clear hb3
        go_wp2_with fail
        refine (C4.out m _).mono ?_
        rintro e w' ⟨rfl, rfl⟩
        as_aux_lemma =>
         obtain ⟨kr, hkr⟩ : ∃ kr, (k : Int) * r = kr := ⟨_, rfl⟩
         rw [hkr] at T0
         have W1 : IntKind.i64.wrap ((k : Int) * r) = kr := by rw [hkr]; exact IntWalk.i64_in _ (by omega)
         have W0 : IntKind.i64.wrap (0 * r) = 0 := by rw [Int.zero_mul]; rfl
         have W00 : IntKind.i64.wrap 0 = 0 := rfl
         have HT2 := T2.out m ⟨h50, h51⟩
         have HT3 := T3.out m
         generalize V m l y a b g = v at *
         obtain ⟨z, hwz⟩ : ∃ z, widestV l a 3 = z := ⟨_, rfl⟩
         have HX := Lib.hid (widest_fact hl fa)
         have HG := Lib.hid (fun W => iWidestGap l a 3 W)
         rw [hwz] at HX HG
         clear hkr hwz T2 T3
         by_cases ht : 0 < t
         · skip
           as_aux_lemma =>
            obtain ⟨v0, v1, v2, v3, v4, v5⟩ := HT2 ht
            obtain ⟨VT, hVT⟩ : ∃ x, v * t = x := ⟨_, rfl⟩
            obtain ⟨UT, hUT⟩ : ∃ x, (v - 1) * t = x := ⟨_, rfl⟩
            obtain ⟨M, hM⟩ : ∃ x, max m 1 = x := ⟨_, rfl⟩
            rw [hVT] at v2 v4
            rw [hUT, hM] at v3
            rw [hUT] at v5
            have b1 : decide (t < 0) = false := by simp; omega
            have b2 : decide (0 ≤ v) = true := by simp; omega
            have b3 : decide (0 < t) = true := by simp; omega
            have b4 : decide (VT < m) = false := by simp; omega
            have b5 : decide (M ≤ UT) = false := by simp; omega
            have b6 : decide (t < kr) = false := by simp; omega
            have W2 : IntKind.i64.wrap (v * t) = VT := by rw [hVT]; exact IntWalk.i64_in _ (by omega)
            have W3 : IntKind.i64.wrap (v - 1) = v - 1 := IntWalk.i64_in _ (by omega)
            have W4 : IntKind.i64.wrap ((v - 1) * t) = UT := by rw [hUT]; exact IntWalk.i64_in _ (by omega)
            have mx1 : (if 1 < m then m else 1) = M := by split <;> omega
            have mx2 : (if m < 1 then 1 else m) = M := by split <;> omega
            clear hVT hUT hM v2 v3 v4 v5 HT2 HT3
            simp only []
            iterate 9 go_step
            refine wp_region_L (C := (fun w' => In w.heap.size w w')) ?_ ?_
            · exact i3
            repeat (first | go_big_quiet_skip | (go_big_quiet_want; first | (refine quiet_ex ?_; apply Exists.intro; refine ⟨fun W hW => ?_, ?_⟩; (· (obtain i5 := hW; go_simp; (first | done | with_reducible rfl | rfl))); simp only [Act.put, List.setIfInBounds_toArray, List.set_cons_zero, List.set_cons_succ]; go_big_quiet_on) | (refine quiet_ex ?_; apply Exists.intro; refine ⟨fun W hW => ?_, ?_⟩; (· (go_simp; first | (go_at_call 8; (with_reducible refine (C1.out _).mono ?_); rintro e w2 ⟨rfl, rfl⟩; exact ⟨rfl, hW⟩) | (go_at_call 8; (with_reducible refine (C2.out _).mono ?_); rintro e w2 ⟨rfl, rfl⟩; exact ⟨rfl, hW⟩) | (go_at_call 6; (with_reducible refine (C3.out _).mono ?_); rintro e w2 ⟨rfl, rfl⟩; exact ⟨rfl, hW⟩))); simp only [Act.put, List.setIfInBounds_toArray, List.set_cons_zero, List.set_cons_succ]; go_big_quiet_on)))
            refine wpQuiet_nil ?_
            rintro w' i5
            as_aux_lemma =>
             clear W0 W00 W1 W2 W3 W4 mx1 mx2 b1 b2 b3 b4 b5 b6
             go_wp2_with fail
             refine (HG.out _).mono ?_
             rintro e w' ⟨rfl, rfl⟩
             have H80 := Lib.hid (fun W => iRowsFor 80 20 10 W)
             rw [rows_80] at H80
             have W3a : IntKind.i64.wrap (3 * a) = 3 * a := IntWalk.i64_in _ (by omega)
             rcases HX.out with ⟨rfl, h3⟩ | ⟨z0, z1, h3, z3, z4⟩
             · have b1 : decide (3 * a ≤ l) = false := by simp; omega
               simp only []
               iterate 8 go_step
               refine wp_region_L (C := (fun w' => In w.heap.size w w')) ?_ ?_
               · exact i5
               repeat (first | go_big_quiet_skip | (go_big_quiet_want; first | (refine quiet_ex ?_; apply Exists.intro; refine ⟨fun W hW => ?_, ?_⟩; (· (obtain i6 := hW; go_simp; (first | done | with_reducible rfl | rfl))); simp only [Act.put, List.setIfInBounds_toArray, List.set_cons_zero, List.set_cons_succ]; go_big_quiet_on) | (refine quiet_ex ?_; apply Exists.intro; refine ⟨fun W hW => ?_, ?_⟩; (· (go_simp; first | (go_at_call 6; (with_reducible refine (H80.out _).mono ?_); rintro e w2 ⟨rfl, rfl⟩; exact ⟨rfl, hW⟩))); simp only [Act.put, List.setIfInBounds_toArray, List.set_cons_zero, List.set_cons_succ]; go_big_quiet_on)))
               refine wpQuiet_nil ?_
               rintro w' i6
               go_wp2
               go_ret
               exact ⟨ret_bool rfl, i6.below⟩
             · exact absurd hla (by omega)
         · skip
           as_aux_lemma =>
            obtain rfl : v = -1 := HT3 (by omega)
            obtain rfl : t = 0 := by omega
            have b6 : decide (0 < kr) = false := by simp; omega
            clear HT2 HT3
            simp only []
            iterate 9 go_step
            refine wp_region_L (C := (fun w' => In w.heap.size w w')) ?_ ?_
            · exact i3
            repeat (first | go_big_quiet_skip | (go_big_quiet_want; first | (refine quiet_ex ?_; apply Exists.intro; refine ⟨fun W hW => ?_, ?_⟩; (· (obtain i5 := hW; go_simp; (first | done | with_reducible rfl | rfl))); simp only [Act.put, List.setIfInBounds_toArray, List.set_cons_zero, List.set_cons_succ]; go_big_quiet_on) | (refine quiet_ex ?_; apply Exists.intro; refine ⟨fun W hW => ?_, ?_⟩; (· (go_simp; first | (go_at_call 8; (with_reducible refine (C1.out _).mono ?_); rintro e w2 ⟨rfl, rfl⟩; exact ⟨rfl, hW⟩) | (go_at_call 8; (with_reducible refine (C2.out _).mono ?_); rintro e w2 ⟨rfl, rfl⟩; exact ⟨rfl, hW⟩) | (go_at_call 6; (with_reducible refine (C3.out _).mono ?_); rintro e w2 ⟨rfl, rfl⟩; exact ⟨rfl, hW⟩))); simp only [Act.put, List.setIfInBounds_toArray, List.set_cons_zero, List.set_cons_succ]; go_big_quiet_on)))
            refine wpQuiet_nil ?_
            rintro w' i5
            as_aux_lemma =>
             clear W0 W00 W1 b6
             go_wp2_with fail
             refine (HG.out _).mono ?_
             rintro e w' ⟨rfl, rfl⟩
             have H80 := Lib.hid (fun W => iRowsFor 80 20 10 W)
             rw [rows_80] at H80
             have W3a : IntKind.i64.wrap (3 * a) = 3 * a := IntWalk.i64_in _ (by omega)
             rcases HX.out with ⟨rfl, h3⟩ | ⟨z0, z1, h3, z3, z4⟩
             · have b1 : decide (3 * a ≤ l) = false := by simp; omega
               simp only []
               iterate 8 go_step
               refine wp_region_L (C := (fun w' => In w.heap.size w w')) ?_ ?_
               · exact i5
               repeat (first | go_big_quiet_skip | (go_big_quiet_want; first | (refine quiet_ex ?_; apply Exists.intro; refine ⟨fun W hW => ?_, ?_⟩; (· (obtain i6 := hW; go_simp; (first | done | with_reducible rfl | rfl))); simp only [Act.put, List.setIfInBounds_toArray, List.set_cons_zero, List.set_cons_succ]; go_big_quiet_on) | (refine quiet_ex ?_; apply Exists.intro; refine ⟨fun W hW => ?_, ?_⟩; (· (go_simp; first | (go_at_call 6; (with_reducible refine (H80.out _).mono ?_); rintro e w2 ⟨rfl, rfl⟩; exact ⟨rfl, hW⟩))); simp only [Act.put, List.setIfInBounds_toArray, List.set_cons_zero, List.set_cons_succ]; go_big_quiet_on)))
               refine wpQuiet_nil ?_
               rintro w' i6
               go_wp2
               go_ret
               exact ⟨ret_bool rfl, i6.below⟩
             · exact absurd hla (by omega)
end Go.Proofs.Ytcaelhkpboeboaa
