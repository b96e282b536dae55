/- Chapter 21: FarFirst, the model. -/
import Derived.Test.YtmkfnhgaiheckaaFarI
namespace Go.Proofs.Ytmkfnhgaiheckaa
open Go.ChangeShapes Go.WideShapes Go.ChangeAt Go.RowKit Go.Conc
set_option linter.unusedVariables false
set_option linter.unusedSimpArgs false
set_option maxHeartbeats 2000000

theorem rows_new0 {w : World} {B : Nat} (h : B ≤ w.heap.size) : (w.alloc (.cells #[] 43)).ownsRow B 43 1 (.slice (some ⟨w.heap.size, 0, none⟩) 0 0) 0 [] :=
  ⟨rfl, .inr ⟨w.heap.size, 0, _, rfl, h, heap_alloc_new w _, Nat.le_refl _, Nat.zero_le _, by simp, by simp⟩⟩
theorem rowsC_own0 {w : World} {B : Nat} {v : Value} (h : w.ownsRow B 43 1 v 0 []) : RowsC w B v 0 [] := by
  have hT := RowsT.nil w B []
  exact ⟨_, _, _, h, hT.1, hT.2.1, hT.2.2⟩
set_option maxHeartbeats 16000000 in
set_option maxRecDepth 20000 in
theorem sFarFirst (A : Option Addr) (n c : Nat) (xs : List ShopR) (room : Int) (w : World) (hn : n ≤ maxLen) (hx : ReadsShop w A n xs) : Calls Try.prog 80 #[.slice A n c, .int .i64 room] w (RowRCB (FarL n xs room) (farB n xs room) w) := by
  obtain ⟨j0, hj0, hy0, hy1, hy2⟩ := info_parts infoSSb
  obtain ⟨i0, hi0, hz0, hz1, hz2⟩ := info_parts infoF21
  go_enter Try.func80, Try.ntmps80
  have hb0 : Below w.heap.size w (w.alloc (.cells #[] 43)) := (Below.refl _ w).alloc (Nat.le_refl _) _
  have i0' : In w.heap.size w (w.alloc (.cells #[] 43)) := (In.refl w).step hb0
  have hO0 := rows_new0 (w := w) (Nat.le_refl _)
  clear hb0
  go_wp2_with fail
  refine (sShopsOk A n c xs _ hn (hx.in_ i0')).mono ?_
  rintro _ w1 ⟨rfl, hb1⟩
  have i1 : In w.heap.size w w1 := i0'.step hb1
  have hO1 := own_step hO0 hb1
  clear hb1 i0' hO0
  cases hsh : shopsB n xs
  · skip
    have HV : Hid (farB n xs room = false) := Lib.hid (by unfold farB; rw [hsh]; rfl)
    have HL := Lib.hid (FarL_f HV.out)
    go_wp2
    refine bodyPost_ret (v := .tuple #[.slice (some ⟨w.heap.size, 0, none⟩) 0 0, .bool false]) (by simp [results, Try.results80, go_sem]) rfl ?_
    exact ⟨.slice (some ⟨w.heap.size, 0, none⟩) 0 0, by rw [HV.out], by rw [HL.out]; exact rowsC_own0 hO1, i1.below⟩
  · skip
    go_wp2_with fail
    refine (sIn room 1 100 _).mono ?_
    rintro _ _ ⟨rfl, rfl⟩
    cases hin : inB room 1 100
    · skip
      have HV : Hid (farB n xs room = false) := Lib.hid (by unfold farB; rw [hin]; simp)
      have HL := Lib.hid (FarL_f HV.out)
      go_wp2
      refine bodyPost_ret (v := .tuple #[.slice (some ⟨w.heap.size, 0, none⟩) 0 0, .bool false]) (by simp [results, Try.results80, go_sem]) rfl ?_
      exact ⟨.slice (some ⟨w.heap.size, 0, none⟩) 0 0, by rw [HV.out], by rw [HL.out]; exact rowsC_own0 hO1, i1.below⟩
    · skip
      have hrm := inB_tt hin
      have hn10 := (shops_at hsh).1
      have HLV := Lib.hid (fun i (hi : i < n) => loaves_in hsh hi)
      have HSI : Hid (shopsB n xs = true ∧ inB room 1 100 = true) := Lib.hid ⟨hsh, hin⟩
      have HFV : Hid ((∃ i, i < n ∧ bigAt xs room i = false) → farB n xs room = false) := Lib.hid (by
        rintro ⟨i, h1, h2⟩
        unfold farB
        rw [allOk_f _ _ i h1 h2]; simp)
      have HTV : Hid ((∀ i, n ≤ i + n → i < n → (xs.getD i z21).f1 ≤ room) → farB n xs room = true) := Lib.hid (fun h => by
        unfold farB
        rw [HSI.out.1, HSI.out.2, allOk_t (bigAt xs room) _ (fun i hi => decide_eq_true (h i (by omega) hi))]; rfl)
      clear hsh hin
      have hn9 : (n : Int) ≤ 10 := by omega
      have hB3 : w.heap.size ≤ w1.heap.size := i1.size
      obtain ⟨B1, hB1⟩ : ∃ B1 : Nat, w.heap.size = B1 := ⟨_, rfl⟩
      have HWB : Hid (w.heap.size ≤ B1) := Lib.hid (by omega)
      have hT0 : TripS w1 B1 (.slice (some ⟨w.heap.size, 0, none⟩) 0 0) 0 [] [] := .inl ⟨rfl, by rw [← hB1]; exact hO1⟩
      rw [hB1] at hB3
      clear hB1 hO1
      have HFN := Lib.hid (fun j h => far_new (xs := xs) (n := n) (room := room) (j := j) h)
      have HFS := Lib.hid (fun j h => far_same (xs := xs) (n := n) (room := room) (j := j) h)
      have HF1 := Lib.hid (far_first (xs := xs) (n := n) (room := room))
      have HLN := Lib.hid (far_len (xs := xs) (n := n) (room := room))
      have HR0 : Hid (fD xs n room 0 = [] ∧ fC xs n room 0 = [] ∧ fR xs n room 0 = 0) := Lib.hid ⟨rfl, rfl, rfl⟩
      have HFB := Lib.hid (far_room (n := n) HLV.out hrm)
      go_wp2_with fail
      go_loopw [6, 7, 8] (fun v l k wr => ∃ j : Nat, j ≤ n ∧ l = .int .i64 (fR xs n room j) ∧ k = .int .i64 ((n : Int) - 1 - j) ∧ (∀ i, n ≤ i + j → i < n → (xs.getD i z21).f1 ≤ room) ∧ TripS wr B1 v j (fD xs n room j) (fC xs n room j) ∧ In w.heap.size w wr ∧ B1 ≤ wr.heap.size) (fun v l k _ => (intOf k + 1).toNat)
      case atStart => exact ⟨0, Nat.zero_le _, by rw [HR0.out.2.2], by simp, fun i h1 h2 => absurd h1 (by omega), hT0, i1, hB3⟩
      case round =>
        clear i1 hT0 hB3
        obtain ⟨j, hj, rfl, rfl, hgd, hTS9, hi9, hB9⟩ := hrel
        obtain ⟨w9, hw9⟩ : ∃ q, q = wr := ⟨_, rfl⟩
        subst hw9
        by_cases hlt : j < n
        · skip
          obtain ⟨kn, hkn⟩ : ∃ kn : Nat, n - 1 - j = kn := ⟨_, rfl⟩
          have hkk : (n : Int) - 1 - j = (kn : Int) := by omega
          have hknn : kn < n := by omega
          rw [hkk]
          have HGD := Lib.hid hgd
          clear hgd
          obtain ⟨ad, rfl, hc0, hc1⟩ := (hx.in_ hi9).2 kn hknn
          have hlv := HLV.out kn hknn
          obtain ⟨xk, hxk⟩ : ∃ x, (xs.getD kn z21).f1 = x := ⟨_, rfl⟩
          have HCA := Lib.hid (fun w' (h : In w.heap.size w w') => show w'.cell? ⟨(ad.add (kn * 2)).block, (ad.add (kn * 2)).off + 1, none⟩ = some (.int .i64 xk) from by
            obtain ⟨a', e, _, h1⟩ := (hx.in_ h).2 kn hknn
            cases e
            rw [← hxk]; exact h1)
          change w9.cell? _ = some (.int .i64 (xs.getD kn z21).f1) at hc1
          rw [hxk] at hc1 hlv
          have HXK := Lib.hid hxk
          have HI9 := Lib.hid hi9
          clear hc0 hxk hi9
          have hlb := HFB.out j (by omega)
          obtain ⟨l, hl⟩ : ∃ l, fR xs n room j = l := ⟨_, rfl⟩
          rw [hl] at hlb
          have hkn10 : kn < 10 := by omega
          have hjn10 : j < 10 := by omega
          by_cases hbig : room < xk
          · skip
            have HV : Hid (farB n xs room = false) := Lib.hid (HFV.out ⟨kn, hknn, decide_eq_false (by rw [HXK.out]; omega)⟩)
            have HL := Lib.hid (FarL_f HV.out)
            clear hl
            go_wp2
            refine bodyPost_ret (v := .tuple #[.slice (some ⟨w9.heap.size, 0, none⟩) 0 0, .bool false]) (by simp [results, Try.results80, go_sem]) rfl ?_
            exact ⟨.slice (some ⟨w9.heap.size, 0, none⟩) 0 0, by rw [HV.out], by rw [HL.out]; exact rowsC_own0 (rows_new0 HI9.out.size), (HI9.out.alloc _).below⟩
          have HGO : Hid (∀ i, n ≤ i + (j + 1) → i < n → (xs.getD i z21).f1 ≤ room) := Lib.hid (fun i h1 h2 => by
            by_cases e : i = kn
            · subst e; rw [HXK.out]; omega
            · exact HGD.out i (by omega) h2)
          by_cases hjz : j = 0
          · skip
            subst hjz
            obtain ⟨e1, e2, e3⟩ := HF1.out
            have hke : (n - 1 : Nat) = kn := by omega
            rw [hke] at e2 e3
            rw [HXK.out] at e3
            have HE := Lib.hid (show fD xs n room (0 + 1) = [] ∧ fC xs n room (0 + 1) = [(kn : Int)] ∧ fR xs n room (0 + 1) = room - xk from ⟨e1, e2, e3⟩)
            clear e1 e2 e3 hke
            have hl0 : l = 0 := by rw [← hl]; exact HR0.out.2.2
            subst hl0
            try rw [hl]
            clear hl
            obtain ⟨_, hO⟩ : 0 = 0 ∧ w9.ownsRow B1 43 1 _ 0 [] := by
              rcases hTS9 with h | h
              · exact h
              · exact absurd h.1 (Nat.lt_irrefl _)
            clear hTS9
            have hT : RowsT w9 B1 0 [] [] (fun _ => 0) (fun _ => 0) := RowsT.nil _ _ _
            have hV0 : ([] : List Value).length = 0 := rfl
            rcases own_formG hO with ⟨rfl, _⟩ | ⟨g0, c0, cur0, rfl, _, _, _⟩
            · skip
              have HVL := Lib.hid hV0
              have hbe : Below w9.heap.size w9 (w9.alloc (.cells #[] 3)) := (Below.refl _ w9).alloc (Nat.le_refl _) _
              have HO1 := Lib.hid (own_step hO hbe)
              have HT1 := Lib.hid (RowsT.step hT hbe)
              have HOC := Lib.hid (ownC_new0 w9)
              have HGL := Lib.hid (RowsT.lt hT)
              clear hbe hO hT hV0
              go_wp2_with (first | (at_builtin; refine wpList_app2 w2 rfl (.tmp 60) (.tmp 62) 43 rfl i0 (.int .i64 0) Try.underlying43 hi0 hz0 hz1 hz2 rfl w9.heap.size 0 0 [] rfl HOC2.out (kn : Int) rfl (by omega) ?_; intro g3 c3 w3 ho3 hg3 hb3; obtain ⟨k3, z3, hL3⟩ := RowsL.grow HOW2.out HVL.out HT9.out HOC2.out hB9 (fun t ht => HGL.out t ht) ho3 hg3 hb3; have HL3 := Lib.hid hL3; have HB3 := Lib.hid (HB2.out.grown hb3 (by have := HB2.out.size; omega) (fun i hi => by injection hi with hi; omega)); have HB4 := Lib.hid (HB3.out.setCell (p := ⟨go2, 0, none⟩) hgo2 (.slice (some ⟨g3, 0, none⟩) (0 + 1) c3)); have hc3 := HCA.out _ (HI9.out.wide (HB4.out.mono HWB.out)); clear hb3 ho3 hL3 k2 z2) | (at_builtin; refine wpList_app4 (w9.alloc (.cells #[] 3)) rfl (.tmp 47) (.tmp 49) 24 rfl B1 43 j0 (.slice none 0 0) 24 Try.underlying24 hj0 hy0 hy1 hy2 rfl (by omega) (.slice none 0 0) (0) ([]) rfl HO1.out (.slice (some ⟨w9.heap.size, 0, none⟩) 0 0) (w9.heap.size + 1) (by simp) rfl rfl (by omega) (by first | omega | (simp; omega)) ?_; intro v2 w2 hown2 hg2; obtain ⟨go2, cap2, rfl, hgo2⟩ := shape_succ hown2; have HB2 := Lib.hid (Below.grown ((Below.refl B1 w9).alloc hB9 (.cells #[] 3)) hg2 (by first | omega | (simp; omega)) (own_ge_s HO1.out)); have HT9 := Lib.hid (RowsT.appd HO1.out HT1.out hg2); have HOW2 := Lib.hid hown2; have k2 : w2.cell? ⟨go2, 0, none⟩ = some (.slice (some ⟨w9.heap.size, 0, none⟩) 0 0) := cell_last hown2 HVL.out; have z2 : w2.frozen? ⟨go2, 0, none⟩ = false := World.ownsRow.frozenAt hown2 (0); have HOC2 := Lib.hid (ownC_only HOC.out hg2 (fun i hi => ne_outer HO1.out HOC.out hi)); clear hown2 hg2))
              go_roundw
              case rel =>
                have e1 := HE.out
                refine ⟨0 + 1, by omega, by rw [e1.2.2], by congr 1; omega, HGO.out, .inr ⟨Nat.succ_pos _, ?_⟩, HI9.out.wide (HB4.out.mono HWB.out), Nat.le_trans hB9 HB4.out.size⟩
                rw [e1.1, e1.2.1]
                exact HL3.out
              case measure => simp [intOf] <;> omega
            · skip
              have HVL := Lib.hid hV0
              have hbe : Below w9.heap.size w9 (w9.alloc (.cells #[] 3)) := (Below.refl _ w9).alloc (Nat.le_refl _) _
              have HO1 := Lib.hid (own_step hO hbe)
              have HT1 := Lib.hid (RowsT.step hT hbe)
              have HOC := Lib.hid (ownC_new0 w9)
              have HGL := Lib.hid (RowsT.lt hT)
              clear hbe hO hT hV0
              go_wp2_with (first | (at_builtin; refine wpList_app2 w2 rfl (.tmp 60) (.tmp 62) 43 rfl i0 (.int .i64 0) Try.underlying43 hi0 hz0 hz1 hz2 rfl w9.heap.size 0 0 [] rfl HOC2.out (kn : Int) rfl (by omega) ?_; intro g3 c3 w3 ho3 hg3 hb3; obtain ⟨k3, z3, hL3⟩ := RowsL.grow HOW2.out HVL.out HT9.out HOC2.out hB9 (fun t ht => HGL.out t ht) ho3 hg3 hb3; have HL3 := Lib.hid hL3; have HB3 := Lib.hid (HB2.out.grown hb3 (by have := HB2.out.size; omega) (fun i hi => by injection hi with hi; omega)); have HB4 := Lib.hid (HB3.out.setCell (p := ⟨go2, 0, none⟩) hgo2 (.slice (some ⟨g3, 0, none⟩) (0 + 1) c3)); have hc3 := HCA.out _ (HI9.out.wide (HB4.out.mono HWB.out)); clear hb3 ho3 hL3 k2 z2) | (at_builtin; refine wpList_app4 (w9.alloc (.cells #[] 3)) rfl (.tmp 47) (.tmp 49) 24 rfl B1 43 j0 (.slice none 0 0) 24 Try.underlying24 hj0 hy0 hy1 hy2 rfl (by omega) (.slice (some ⟨g0, 0, none⟩) 0 c0) (0) ([]) rfl HO1.out (.slice (some ⟨w9.heap.size, 0, none⟩) 0 0) (w9.heap.size + 1) (by simp) rfl rfl (by omega) (by first | omega | (simp; omega)) ?_; intro v2 w2 hown2 hg2; obtain ⟨go2, cap2, rfl, hgo2⟩ := shape_succ hown2; have HB2 := Lib.hid (Below.grown ((Below.refl B1 w9).alloc hB9 (.cells #[] 3)) hg2 (by first | omega | (simp; omega)) (own_ge_s HO1.out)); have HT9 := Lib.hid (RowsT.appd HO1.out HT1.out hg2); have HOW2 := Lib.hid hown2; have k2 : w2.cell? ⟨go2, 0, none⟩ = some (.slice (some ⟨w9.heap.size, 0, none⟩) 0 0) := cell_last hown2 HVL.out; have z2 : w2.frozen? ⟨go2, 0, none⟩ = false := World.ownsRow.frozenAt hown2 (0); have HOC2 := Lib.hid (ownC_only HOC.out hg2 (fun i hi => ne_outer HO1.out HOC.out hi)); clear hown2 hg2))
              go_roundw
              case rel =>
                have e1 := HE.out
                refine ⟨0 + 1, by omega, by rw [e1.2.2], by congr 1; omega, HGO.out, .inr ⟨Nat.succ_pos _, ?_⟩, HI9.out.wide (HB4.out.mono HWB.out), Nat.le_trans hB9 HB4.out.size⟩
                rw [e1.1, e1.2.1]
                exact HL3.out
              case measure => simp [intOf] <;> omega
          · skip
            obtain ⟨D, hD⟩ : ∃ D, fD xs n room j = D := ⟨_, rfl⟩
            obtain ⟨cur, hcur⟩ : ∃ c, fC xs n room j = c := ⟨_, rfl⟩
            have hln := HLN.out j
            have hfn := HFN.out j (by omega)
            have hfs := HFS.out j (by omega)
            rw [hkn, HXK.out, hl, hD, hcur] at hfn hfs
            rw [hD, hcur] at hln hTS9
            have hL := (Or.resolve_left hTS9 (fun h => hjz h.1)).2
            obtain ⟨m, hm⟩ : ∃ m, D.length = m := ⟨_, rfl⟩
            rw [hm] at hL hln
            obtain ⟨vs, G, C, g, cc, go, cap, rfl, h1, hvl, h2, h3, h4, h5, hgo, _⟩ := hL
            try rw [hl]
            have hmj := hln.2.2 (by omega)
            have hcl : cur.length ≤ j := by omega
            have HM := Lib.hid hm
            clear hTS9 hln hl hD hcur hm
            by_cases hc : l < xk
            · skip
              have HE := Lib.hid (hfn hc)
              clear hfn hfs
              have hT := RowsT.snoc h2 hvl h3 h4 (by omega) h5
              have hV0 : (vs ++ [Value.slice (some ⟨g, 0, none⟩) cur.length cc]).length = m + 1 := by simp [hvl]
              clear h2 hvl h3 h4 h5
              have HVL := Lib.hid hV0
              have hbe : Below w9.heap.size w9 (w9.alloc (.cells #[] 3)) := (Below.refl _ w9).alloc (Nat.le_refl _) _
              have HO1 := Lib.hid (own_step h1 hbe)
              have HT1 := Lib.hid (RowsT.step hT hbe)
              have HOC := Lib.hid (ownC_new0 w9)
              have HGL := Lib.hid (RowsT.lt hT)
              clear hbe h1 hT hV0
              go_wp2_with (first | (at_builtin; refine wpList_app2 w2 rfl (.tmp 60) (.tmp 62) 43 rfl i0 (.int .i64 0) Try.underlying43 hi0 hz0 hz1 hz2 rfl w9.heap.size 0 0 [] rfl HOC2.out (kn : Int) rfl (by omega) ?_; intro g3 c3 w3 ho3 hg3 hb3; obtain ⟨k3, z3, hL3⟩ := RowsL.grow HOW2.out HVL.out HT9.out HOC2.out hB9 (fun t ht => HGL.out t ht) ho3 hg3 hb3; have HL3 := Lib.hid hL3; have HB3 := Lib.hid (HB2.out.grown hb3 (by have := HB2.out.size; omega) (fun i hi => by injection hi with hi; omega)); have HB4 := Lib.hid (HB3.out.setCell (p := ⟨go2, m + 1, none⟩) hgo2 (.slice (some ⟨g3, 0, none⟩) (0 + 1) c3)); have hc3 := HCA.out _ (HI9.out.wide (HB4.out.mono HWB.out)); clear hb3 ho3 hL3 k2 z2) | (at_builtin; refine wpList_app4 (w9.alloc (.cells #[] 3)) rfl (.tmp 47) (.tmp 49) 24 rfl B1 43 j0 (.slice none 0 0) 24 Try.underlying24 hj0 hy0 hy1 hy2 rfl (by omega) (.slice (some ⟨go, 0, none⟩) (m + 1) cap) (m + 1) (vs ++ [Value.slice (some ⟨g, 0, none⟩) cur.length cc]) rfl HO1.out (.slice (some ⟨w9.heap.size, 0, none⟩) 0 0) (w9.heap.size + 1) (by simp) rfl rfl (by omega) (by first | omega | (simp; omega)) ?_; intro v2 w2 hown2 hg2; obtain ⟨go2, cap2, rfl, hgo2⟩ := shape_succ hown2; have HB2 := Lib.hid (Below.grown ((Below.refl B1 w9).alloc hB9 (.cells #[] 3)) hg2 (by first | omega | (simp; omega)) (own_ge_s HO1.out)); have HT9 := Lib.hid (RowsT.appd HO1.out HT1.out hg2); have HOW2 := Lib.hid hown2; have k2 : w2.cell? ⟨go2, m + 1, none⟩ = some (.slice (some ⟨w9.heap.size, 0, none⟩) 0 0) := cell_last hown2 HVL.out; have z2 : w2.frozen? ⟨go2, m + 1, none⟩ = false := World.ownsRow.frozenAt hown2 (m + 1); have HOC2 := Lib.hid (ownC_only HOC.out hg2 (fun i hi => ne_outer HO1.out HOC.out hi)); clear hown2 hg2))
              go_roundw
              case rel =>
                have e1 := HE.out
                refine ⟨j + 1, by omega, by rw [e1.2.2], by congr 1; omega, HGO.out, .inr ⟨Nat.succ_pos _, ?_⟩, HI9.out.wide (HB4.out.mono HWB.out), Nat.le_trans hB9 HB4.out.size⟩
                rw [e1.1, e1.2.1]
                have e : (D ++ [cur]).length = m + 1 := by simp [HM.out]
                rw [e]
                exact HL3.out
              case measure => simp [intOf] <;> omega
            · skip
              have HE := Lib.hid (hfs (by omega))
              clear hfn hfs
              have k0 : w9.cell? ⟨go, m, none⟩ = some (.slice (some ⟨g, 0, none⟩) cur.length cc) := cell_last h1 hvl
              have z0 : w9.frozen? ⟨go, m, none⟩ = false := World.ownsRow.frozenAt h1 m
              have HO1 := Lib.hid h1
              have HVL := Lib.hid hvl
              have HT1 := Lib.hid h2
              have HOC := Lib.hid h3
              have HBG := Lib.hid h4
              have HGL := Lib.hid h5
              clear h1 hvl h2 h3 h4 h5
              go_wp2_with (at_builtin; refine wpList_app2 w9 rfl (.tmp 60) (.tmp 62) 43 rfl i0 (.int .i64 0) Try.underlying43 hi0 hz0 hz1 hz2 rfl g cur.length cc cur rfl HOC.out (kn : Int) rfl (by omega) ?_; intro g3 c3 w3 ho3 hg3 hb3; obtain ⟨k3, z3, hL3⟩ := RowsL.grow HO1.out HVL.out HT1.out HOC.out HBG.out HGL.out ho3 hg3 hb3; have HL3 := Lib.hid hL3; have HB4 := Lib.hid (((Below.refl B1 w9).grown hb3 hB9 (fun i hi => by injection hi with hi; have := HBG.out; omega)).setCell (p := ⟨go, m, none⟩) hgo (.slice (some ⟨g3, 0, none⟩) (cur.length + 1) c3)); have hc3 := HCA.out _ (HI9.out.wide (HB4.out.mono HWB.out)); clear hb3 ho3 hL3 k0 z0)
              go_roundw
              case rel =>
                have e1 := HE.out
                refine ⟨j + 1, by omega, by rw [e1.2.2], by congr 1; omega, HGO.out, .inr ⟨Nat.succ_pos _, ?_⟩, HI9.out.wide (HB4.out.mono HWB.out), Nat.le_trans hB9 HB4.out.size⟩
                rw [e1.1, e1.2.1]
                rw [HM.out]
                exact HL3.out
              case measure => simp [intOf] <;> omega
        · skip
          have hjn : n = j := by omega
          subst hjn
          obtain ⟨q, hq⟩ : ∃ q, (n : Int) - 1 - n = q := ⟨_, rfl⟩
          have hq0 : q = -1 := by omega
          rw [hq]
          subst hq0
          have HV := Lib.hid (HTV.out hgd)
          have hln := (HLN.out n).1
          have HRC := Lib.hid (far_end hTS9 (fun h => FarL_t HV.out h) (by omega) HWB.out)
          have HI := Lib.hid hi9
          clear hgd hTS9 hln hi9 hq
          go_wp2
          refine bodyPost_ret (v := .tuple #[u6, .bool true]) (by simp [results, Try.results80, go_sem]) rfl ?_
          refine ⟨_, ?_, HRC.out, HI.out.below⟩
          rw [HV.out]
end Go.Proofs.Ytmkfnhgaiheckaa
