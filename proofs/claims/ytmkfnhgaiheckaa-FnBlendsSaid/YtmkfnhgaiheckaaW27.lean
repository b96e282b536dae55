/- Chapter 27: CheapestTwo, the program. -/
import Derived.Test.YtmkfnhgaiheckaaU27
import Derived.Test.YtmkfnhgaiheckaaV27
import Derived.Deep.Cut
namespace Go.Proofs.Ytmkfnhgaiheckaa
open Go.ChangeShapes Go.WideShapes Go.ChangeAt Go.RowKit
set_option linter.unusedVariables false
set_option linter.unusedSimpArgs false
set_option maxHeartbeats 2000000

def twoT (n : Nat) (xs : List FlourR) (T L : Int) : Value := .tuple #[i64 (tI (twoV n xs T L)), i64 (tK (twoV n xs T L)), i64 (tN (twoV n xs T L)), .bool (tB (twoV n xs T L))]
theorem twoT_f {n : Nat} {xs : List FlourR} {T L : Int} (h : twoB n xs T L = false) : twoT n xs T L = .tuple #[i64 0, i64 0, i64 0, .bool false] := by unfold twoT; rw [twoV_f h]; rfl
theorem twoT_t {n : Nat} {xs : List FlourR} {T L : Int} (h : twoB n xs T L = true) : twoT n xs T L = .tuple #[i64 (tI (allT xs T L n n)), i64 (tK (allT xs T L n n)), i64 (tN (allT xs T L n n)), .bool (tB (allT xs T L n n))] := by unfold twoT; rw [twoV_t h]
set_option maxHeartbeats 16000000 in
set_option maxRecDepth 20000 in
theorem iCheapestTwo (A : Option Addr) (n c : Nat) (xs : List FlourR) (T L : Int) (w : World) (hn : n ≤ maxLen) (hx : ReadsFlour w A n xs) : Calls Try.prog 27 #[.slice A n c, .int .i64 T, .int .i64 L] w (Val (twoT n xs T L) w) := by
  cases hB : floursB n xs
  · have HV := Lib.hid (twoT_f (n := n) (xs := xs) (T := T) (L := L) (by simp [twoB, hB]))
    go_enter Try.func27, Try.ntmps27
    go_wp2_with (go_at_call 41; (with_reducible refine (iFloursOk A n c xs _ hn hx).mono ?_); rintro _ w1 ⟨rfl, hb1⟩; rw [hB])
    exact bodyPost_ret (v := .tuple #[i64 0, i64 0, i64 0, .bool false]) (by simp [results, Try.results27, go_sem]) rfl (Val.mk' (by rw [HV.out]) (by (repeat (first | exact In.refl _ | assumption | apply In.alloc | apply In.drewN | apply In.drew | (refine In.step ?_ (by assumption))))))
  cases h1 : inB T 1 100
  · have HV := Lib.hid (twoT_f (n := n) (xs := xs) (T := T) (L := L) (by simp [twoB, h1]))
    go_enter Try.func27, Try.ntmps27
    go_wp2_with (first | (go_at_call 41; (with_reducible refine (iFloursOk A n c xs _ hn hx).mono ?_); rintro _ w1 ⟨rfl, hb1⟩; rw [hB]) | (go_at_call 105; (with_reducible refine (iInE h1 _).mono ?_); rintro e w' ⟨rfl, rfl⟩) | (go_at_call 106; (with_reducible refine (i27s L _).mono ?_); rintro e w' ⟨rfl, rfl⟩; rw [h2]))
    exact bodyPost_ret (v := .tuple #[i64 0, i64 0, i64 0, .bool false]) (by simp [results, Try.results27, go_sem]) rfl (Val.mk' (by rw [HV.out]) (by (repeat (first | exact In.refl _ | assumption | apply In.alloc | apply In.drewN | apply In.drew | (refine In.step ?_ (by assumption))))))
  cases h2 : inB L 50 500
  · have HV := Lib.hid (twoT_f (n := n) (xs := xs) (T := T) (L := L) (by simp [twoB, h2]))
    go_enter Try.func27, Try.ntmps27
    go_wp2_with (first | (go_at_call 41; (with_reducible refine (iFloursOk A n c xs _ hn hx).mono ?_); rintro _ w1 ⟨rfl, hb1⟩; rw [hB]) | (go_at_call 105; (with_reducible refine (iInE h1 _).mono ?_); rintro e w' ⟨rfl, rfl⟩) | (go_at_call 106; (with_reducible refine (i27s L _).mono ?_); rintro e w' ⟨rfl, rfl⟩; rw [h2]))
    exact bodyPost_ret (v := .tuple #[i64 0, i64 0, i64 0, .bool false]) (by simp [results, Try.results27, go_sem]) rfl (Val.mk' (by rw [HV.out]) (by (repeat (first | exact In.refl _ | assumption | apply In.alloc | apply In.drewN | apply In.drew | (refine In.step ?_ (by assumption))))))
  have HV := Lib.hid (twoT_t (n := n) (xs := xs) (T := T) (L := L) (by simp [twoB, hB, h1, h2]))
  obtain ⟨t1, t2⟩ := inB_tt h1
  obtain ⟨l1, l2⟩ := inB_tt h2
  obtain ⟨n1, n5, hs⟩ := flours_at hB
  have HS := Lib.hid hs
  have HAS := Lib.hid (allT_s xs T L n)
  have HRS := Lib.hid (rowT_s xs T L)
  have HR0 : Hid (∀ i s, rowT xs T L i s 0 = s) := Lib.hid fun i s => rfl
  have HA0 : Hid (allT xs T L n 0 = none) := Lib.hid rfl
  have HAI := Lib.hid (fun i (hi : i ≤ n) => allT_in hs t2 (L := L) i hi)
  have HRI := Lib.hid (fun i s (h : TwoIn s) j (hj : i + 1 + j ≤ n) => rowT_in hs t2 (L := L) h j hj)
  have HPI := Lib.hid (fun i k (hi : i < n) (hk : k < n) m => pairO_in (L := L) (hs i hi) (hs k hk) t2 m)
  clear hs
  go_enter Try.func27, Try.ntmps27
  go_wp2_with (first | (go_at_call 41; (with_reducible refine (iFloursOk A n c xs _ hn hx).mono ?_); rintro _ w1 ⟨rfl, hb1⟩; rw [hB]) | (go_at_call 105; (with_reducible refine (iInE h1 _).mono ?_); rintro e w' ⟨rfl, rfl⟩) | (go_at_call 106; (with_reducible refine (i27s L _).mono ?_); rintro e w' ⟨rfl, rfl⟩; rw [h2]))
  have i1 : In w.heap.size w w1 := In.step (by (repeat (first | exact In.refl _ | assumption | apply In.alloc | apply In.drewN | apply In.drew | (refine In.step ?_ (by assumption))))) hb1
  clear hb1 hB h1 h2
  go_wp2
  go_loopw [10, 11, 12, 13, 14, 17, 36] (fun a b c d e _k i wr => ∃ p : Nat, p ≤ n ∧ i = .int .i64 p ∧ a = .int .i64 (tI (allT xs T L n p)) ∧ b = .int .i64 (tK (allT xs T L n p)) ∧ c = .int .i64 (tN (allT xs T L n p)) ∧ d = .int .i64 (tC 0 (allT xs T L n p)) ∧ e = .bool (tB (allT xs T L n p)) ∧ (In w.heap.size w wr)) (fun _ _ _ _ _ _ i _ => n - (intOf i).toNat)
  case atStart => exact ⟨0, Nat.zero_le _, rfl, by rw [HA0.out]; rfl, by rw [HA0.out]; rfl, by rw [HA0.out]; rfl, by rw [HA0.out]; rfl, by rw [HA0.out]; rfl, i1⟩
  case round =>
    obtain ⟨p, hp, rfl, rfl, rfl, rfl, rfl, rfl, f1_0⟩ := hrel
    clear i1
    by_cases hlt : p < n
    · skip
      obtain ⟨w8, hq9⟩ : ∃ q, q = wr := ⟨_, rfl⟩
      subst hq9
      obtain ⟨ad, rfl, hb0, hb1, hb2⟩ := (hx.in_ f1_0).2 p hlt
      have HAN := Lib.hid (HAS.out p)
      have HSP := Lib.hid (HS.out p hlt)
      have HPP := Lib.hid (fun k hk => HPI.out p k hlt hk (T.toNat + 1))
      have HRR := Lib.hid (fun j => HRS.out p (allT xs T L n p) j)
      have HR1 := Lib.hid (HR0.out p (allT xs T L n p))
      generalize rowT xs T L p (allT xs T L n p) = RT at *
      rw [← HR1.out]
      clear HR1
      obtain ⟨av, hav⟩ : ∃ v, xs.getD p z27 = v := ⟨_, rfl⟩
      rw [hav] at hb0 hb1 hb2 HSP HPP HRR
      clear hav
      obtain ⟨a0, a1, a2⟩ := av
      simp only at hb0 hb1 hb2 HSP
      have kb : Blk (w8.alloc (.cells #[.int .i64 a0, .int .i64 a1, .int .i64 a2] 56)) w8.heap.size 56 #[.int .i64 a0, .int .i64 a1, .int .i64 a2] := Blk.new w8 _ _
      have e0 := kb.cell 0
      have e1 := kb.cell 1
      have e2 := kb.cell 2
      have i8 := f1_0.alloc (.cells #[.int .i64 a0, .int .i64 a1, .int .i64 a2] 56)
      clear kb
      have hp5 : (p : Int) ≤ 5 := by omega
      go_wp2
      have HP1 : Hid ((p : Int) + 1 = ((p + 1 + 0 : Nat) : Int)) := Lib.hid (by omega)
      obtain ⟨w9, hw9⟩ : ∃ q, q = w8.alloc (.cells #[.int .i64 a0, .int .i64 a1, .int .i64 a2] 56) := ⟨_, rfl⟩
      rw [← hw9] at e0 e1 e2 i8 ⊢
      obtain ⟨g, hg⟩ : ∃ g, g = w8.heap.size := ⟨_, rfl⟩
      rw [← hg] at e0 e1 e2 ⊢
      clear hw9 hg hb0 hb1 hb2 f1_0
      go_loopw [10, 11, 12, 13, 14, 17] (fun a b c d e i wr => ∃ j : Nat, p + 1 + j ≤ n ∧ i = .int .i64 ((p + 1 + j : Nat) : Int) ∧ a = .int .i64 (tI (RT j)) ∧ b = .int .i64 (tK (RT j)) ∧ c = .int .i64 (tN (RT j)) ∧ d = .int .i64 (tC 0 (RT j)) ∧ e = .bool (tB (RT j)) ∧ (In w.heap.size w wr ∧ wr.cell? ⟨g, 0, none⟩ = some (.int .i64 a0) ∧ wr.cell? ⟨g, 1, none⟩ = some (.int .i64 a1) ∧ wr.cell? ⟨g, 2, none⟩ = some (.int .i64 a2))) (fun _ _ _ _ _ i _ => n - (intOf i).toNat)
      case atStart => exact ⟨0, by omega, by rw [← HP1.out], rfl, rfl, rfl, rfl, rfl, i8, e0, e1, e2⟩
      case round =>
        obtain ⟨j, hj, rfl, rfl, rfl, rfl, rfl, rfl, f11_0, f11_1, f11_2, f11_3⟩ := hrel
        clear i8 e0 e1 e2
        have HJ := Lib.hid (HRR.out j)
        obtain ⟨q, hq⟩ : ∃ q : Nat, p + 1 + j = q := ⟨_, rfl⟩
        rw [hq] at HJ hj ⊢
        have HQ := Lib.hid hq
        clear hq
        by_cases hlq : q < n
        · skip
          obtain ⟨ad2, ee, hb0, hb1, hb2⟩ := (hx.in_ f11_0).2 q hlq
          obtain rfl := Option.some.inj ee
          have hsq := HS.out q hlq
          have hpp := HPP.out q hlq
          obtain ⟨bv, hbv⟩ : ∃ v, xs.getD q z27 = v := ⟨_, rfl⟩
          rw [hbv] at hb0 hb1 hb2 hsq hpp HJ
          clear hbv
          obtain ⟨b0, b1, b2⟩ := bv
          simp only at hb0 hb1 hb2 hsq
          have HCO := Lib.hid (fun W => icheapestOf ⟨a0, a1, a2⟩ ⟨b0, b1, b2⟩ T L W HSP.out hsq ⟨t1, t2⟩ ⟨l1, l2⟩)
          simp only at HCO
          generalize pairO (⟨a0, a1, a2⟩ : FlourR) ⟨b0, b1, b2⟩ T L (T.toNat + 1) = ov at *
          clear hsq
          have hq5 : (q : Int) ≤ 5 := by omega
          have hlqi : (q : Int) < (n : Int) := by omega
          rcases hov : ov with _ | ⟨m, d⟩
          · skip
            rw [hov] at HCO HJ
            clear hov hpp
            rw [show oN none = 0 from rfl, show oC none = 0 from rfl, show oB none = false from rfl] at HCO
            go_wp2
            have HCL := Lib.hid (show ∀ W', In w.heap.size w W' ∧ W'.cell? ⟨g, 0, none⟩ = some (.int .i64 a0) ∧ W'.cell? ⟨g, 1, none⟩ = some (.int .i64 a1) ∧ W'.cell? ⟨g, 2, none⟩ = some (.int .i64 a2) ∧ W'.cell? (ad.add (q * 3)) = some (.int .i64 b0) ∧ W'.cell? ⟨(ad.add (q * 3)).block, (ad.add (q * 3)).off + 1, none⟩ = some (.int .i64 b1) ∧ W'.cell? ⟨(ad.add (q * 3)).block, (ad.add (q * 3)).off + 2, none⟩ = some (.int .i64 b2) → ∀ W2, Below W'.heap.size W' W2 → In w.heap.size w W2 ∧ W2.cell? ⟨g, 0, none⟩ = some (.int .i64 a0) ∧ W2.cell? ⟨g, 1, none⟩ = some (.int .i64 a1) ∧ W2.cell? ⟨g, 2, none⟩ = some (.int .i64 a2) ∧ W2.cell? (ad.add (q * 3)) = some (.int .i64 b0) ∧ W2.cell? ⟨(ad.add (q * 3)).block, (ad.add (q * 3)).off + 1, none⟩ = some (.int .i64 b1) ∧ W2.cell? ⟨(ad.add (q * 3)).block, (ad.add (q * 3)).off + 2, none⟩ = some (.int .i64 b2) from fun W' h W2 hb => by
              obtain ⟨g0, g1, g2, g3, g4, g5, g6⟩ := h
              exact ⟨g0.step hb, cell_in g1 ⟨hb, hb.size⟩, cell_in g2 ⟨hb, hb.size⟩, cell_in g3 ⟨hb, hb.size⟩, cell_in g4 ⟨hb, hb.size⟩, cell_in g5 ⟨hb, hb.size⟩, cell_in g6 ⟨hb, hb.size⟩⟩)
            refine wp_region_S (C := (fun w' => In w.heap.size w w' ∧ w'.cell? ⟨g, 0, none⟩ = some (.int .i64 a0) ∧ w'.cell? ⟨g, 1, none⟩ = some (.int .i64 a1) ∧ w'.cell? ⟨g, 2, none⟩ = some (.int .i64 a2) ∧ w'.cell? (ad.add (q * 3)) = some (.int .i64 b0) ∧ w'.cell? ⟨(ad.add (q * 3)).block, (ad.add (q * 3)).off + 1, none⟩ = some (.int .i64 b1) ∧ w'.cell? ⟨(ad.add (q * 3)).block, (ad.add (q * 3)).off + 2, none⟩ = some (.int .i64 b2))) (by kernel_rfl) (by kernel_rfl) ?_ ?_
            · exact ⟨f11_0.drew, f11_1, f11_2, f11_3, hb0, hb1, hb2⟩
            repeat (first | go_big_quiet_skip | (go_big_quiet_want; first | (refine quiet_ex ?_; apply Exists.intro; refine ⟨fun W hW => ?_, ?_⟩; (· (obtain ⟨f12_0, f12_1, f12_2, f12_3, f12_4, f12_5, f12_6⟩ := hW; go_simp; (first | done | with_reducible rfl | rfl))); simp only [Act.put, List.setIfInBounds_toArray, List.set_cons_zero, List.set_cons_succ]; go_big_quiet_on) | (refine quiet_ex ?_; apply Exists.intro; refine ⟨fun W hW => ?_, ?_⟩; (· (go_simp; first | (go_at_call 107; (with_reducible refine (HCO.out _).mono ?_); rintro e w2 ⟨rfl, hb2⟩; exact ⟨rfl, HCL.out _ hW _ hb2⟩))); simp only [Act.put, List.setIfInBounds_toArray, List.set_cons_zero, List.set_cons_succ]; go_big_quiet_on)))
            refine wpQuiet_nil ?_
            rintro w' ⟨f12_0, f12_1, f12_2, f12_3, f12_4, f12_5, f12_6⟩
            clear f11_0 f11_1 f11_2 f11_3 hb0 hb1 hb2
            obtain ⟨wb, hq9⟩ : ∃ q, q = w' := ⟨_, rfl⟩
            subst hq9
            clear HCL HCO
            have HN : Hid (RT (j + 1) = RT j) := Lib.hid HJ.out
            generalize RT j = s9 at *
            go_wp2
            go_roundw
            case rel => exact ⟨j + 1, by have := HQ.out; omega, by have := HQ.out; go_num, by rw [HN.out], by rw [HN.out], by rw [HN.out], by rw [HN.out], by rw [HN.out], f12_0, f12_1, f12_2, f12_3⟩
            case measure => simp [intOf]; omega
          · skip
            rw [hov] at HCO HJ
            clear hov hpp
            rw [show oN (some (m, d)) = m from rfl, show oC (some (m, d)) = d from rfl, show oB (some (m, d)) = true from rfl] at HCO
            go_wp2
            have HCL := Lib.hid (show ∀ W', In w.heap.size w W' ∧ W'.cell? ⟨g, 0, none⟩ = some (.int .i64 a0) ∧ W'.cell? ⟨g, 1, none⟩ = some (.int .i64 a1) ∧ W'.cell? ⟨g, 2, none⟩ = some (.int .i64 a2) ∧ W'.cell? (ad.add (q * 3)) = some (.int .i64 b0) ∧ W'.cell? ⟨(ad.add (q * 3)).block, (ad.add (q * 3)).off + 1, none⟩ = some (.int .i64 b1) ∧ W'.cell? ⟨(ad.add (q * 3)).block, (ad.add (q * 3)).off + 2, none⟩ = some (.int .i64 b2) → ∀ W2, Below W'.heap.size W' W2 → In w.heap.size w W2 ∧ W2.cell? ⟨g, 0, none⟩ = some (.int .i64 a0) ∧ W2.cell? ⟨g, 1, none⟩ = some (.int .i64 a1) ∧ W2.cell? ⟨g, 2, none⟩ = some (.int .i64 a2) ∧ W2.cell? (ad.add (q * 3)) = some (.int .i64 b0) ∧ W2.cell? ⟨(ad.add (q * 3)).block, (ad.add (q * 3)).off + 1, none⟩ = some (.int .i64 b1) ∧ W2.cell? ⟨(ad.add (q * 3)).block, (ad.add (q * 3)).off + 2, none⟩ = some (.int .i64 b2) from fun W' h W2 hb => by
              obtain ⟨g0, g1, g2, g3, g4, g5, g6⟩ := h
              exact ⟨g0.step hb, cell_in g1 ⟨hb, hb.size⟩, cell_in g2 ⟨hb, hb.size⟩, cell_in g3 ⟨hb, hb.size⟩, cell_in g4 ⟨hb, hb.size⟩, cell_in g5 ⟨hb, hb.size⟩, cell_in g6 ⟨hb, hb.size⟩⟩)
            refine wp_region_S (C := (fun w' => In w.heap.size w w' ∧ w'.cell? ⟨g, 0, none⟩ = some (.int .i64 a0) ∧ w'.cell? ⟨g, 1, none⟩ = some (.int .i64 a1) ∧ w'.cell? ⟨g, 2, none⟩ = some (.int .i64 a2) ∧ w'.cell? (ad.add (q * 3)) = some (.int .i64 b0) ∧ w'.cell? ⟨(ad.add (q * 3)).block, (ad.add (q * 3)).off + 1, none⟩ = some (.int .i64 b1) ∧ w'.cell? ⟨(ad.add (q * 3)).block, (ad.add (q * 3)).off + 2, none⟩ = some (.int .i64 b2))) (by kernel_rfl) (by kernel_rfl) ?_ ?_
            · exact ⟨f11_0.drew, f11_1, f11_2, f11_3, hb0, hb1, hb2⟩
            repeat (first | go_big_quiet_skip | (go_big_quiet_want; first | (refine quiet_ex ?_; apply Exists.intro; refine ⟨fun W hW => ?_, ?_⟩; (· (obtain ⟨f12_0, f12_1, f12_2, f12_3, f12_4, f12_5, f12_6⟩ := hW; go_simp; (first | done | with_reducible rfl | rfl))); simp only [Act.put, List.setIfInBounds_toArray, List.set_cons_zero, List.set_cons_succ]; go_big_quiet_on) | (refine quiet_ex ?_; apply Exists.intro; refine ⟨fun W hW => ?_, ?_⟩; (· (go_simp; first | (go_at_call 107; (with_reducible refine (HCO.out _).mono ?_); rintro e w2 ⟨rfl, hb2⟩; exact ⟨rfl, HCL.out _ hW _ hb2⟩))); simp only [Act.put, List.setIfInBounds_toArray, List.set_cons_zero, List.set_cons_succ]; go_big_quiet_on)))
            refine wpQuiet_nil ?_
            rintro w' ⟨f12_0, f12_1, f12_2, f12_3, f12_4, f12_5, f12_6⟩
            clear f11_0 f11_1 f11_2 f11_3 hb0 hb1 hb2
            obtain ⟨wb, hq9⟩ : ∃ q, q = w' := ⟨_, rfl⟩
            subst hq9
            clear HCL HCO
            rcases hrt : RT j with _ | ⟨i9, k9, n9, c9⟩
            · skip
              have HJ2 := HJ.out
              rw [hrt] at HJ2
              have HN : Hid (RT (j + 1) = some ((p : Int), (q : Int), m, d)) := Lib.hid HJ2
              rw [show tI none = 0 from rfl, show tK none = 0 from rfl, show tN none = 0 from rfl, show tC 0 none = 0 from rfl, show tB none = false from rfl]
              clear HJ2 hrt
              go_wp2
              go_roundw
              case rel => exact ⟨j + 1, by have := HQ.out; omega, by have := HQ.out; go_num, by rw [HN.out]; rfl, by rw [HN.out]; rfl, by rw [HN.out]; rfl, by rw [HN.out]; rfl, by rw [HN.out]; rfl, f12_0, f12_1, f12_2, f12_3⟩
              case measure => simp [intOf]; omega
            · skip
              have HJ2 := HJ.out
              rw [hrt] at HJ2
              rw [show tI (some (i9, k9, n9, c9)) = i9 from rfl, show tK (some (i9, k9, n9, c9)) = k9 from rfl, show tN (some (i9, k9, n9, c9)) = n9 from rfl, show tC 0 (some (i9, k9, n9, c9)) = c9 from rfl, show tB (some (i9, k9, n9, c9)) = true from rfl]
              by_cases hdc : d < c9
              · skip
                have HN : Hid (RT (j + 1) = some ((p : Int), (q : Int), m, d)) := Lib.hid (HJ2.trans (if_pos hdc))
                clear HJ2 hrt
                go_wp2
                go_roundw
                case rel => exact ⟨j + 1, by have := HQ.out; omega, by have := HQ.out; go_num, by rw [HN.out]; rfl, by rw [HN.out]; rfl, by rw [HN.out]; rfl, by rw [HN.out]; rfl, by rw [HN.out]; rfl, f12_0, f12_1, f12_2, f12_3⟩
                case measure => simp [intOf]; omega
              · skip
                have HN : Hid (RT (j + 1) = some (i9, k9, n9, c9)) := Lib.hid (HJ2.trans (if_neg hdc))
                clear HJ2 hrt
                go_wp2
                go_roundw
                case rel => exact ⟨j + 1, by have := HQ.out; omega, by have := HQ.out; go_num, by rw [HN.out]; rfl, by rw [HN.out]; rfl, by rw [HN.out]; rfl, by rw [HN.out]; rfl, by rw [HN.out]; rfl, f12_0, f12_1, f12_2, f12_3⟩
                case measure => simp [intOf]; omega
        · skip
          have HN : Hid (allT xs T L n (p + 1) = RT j) := Lib.hid (by
            have h := HQ.out
            have h2 := HAN.out
            rw [show n - (p + 1) = j by omega] at h2
            exact h2)
          have hlqi : ¬ (q : Int) < (n : Int) := by omega
          generalize RT j = s9 at *
          go_wp2
          go_roundw
          case rel => exact ⟨p + 1, by omega, by go_num, by rw [HN.out], by rw [HN.out], by rw [HN.out], by rw [HN.out], by rw [HN.out], f11_0⟩
          case measure => simp [intOf]; omega
    · skip
      obtain rfl : p = n := by omega
      generalize allT xs T L p p = s9 at *
      go_wp2
      exact bodyPost_ret (v := .tuple #[i64 (tI s9), i64 (tK s9), i64 (tN s9), .bool (tB s9)]) (by simp [results, Try.results27, go_sem]) rfl (Val.mk' (by rw [HV.out]) f1_0)
end Go.Proofs.Ytmkfnhgaiheckaa
