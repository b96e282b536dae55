/- Chapter 22: MostShifts: the program. -/
import Derived.Test.YthndjpklfgcpmaaB22
namespace Go.Proofs.Ythndjpklfgcpmaa
open Go.ChangeShapes Go.WideShapes Go.ChangeAt Go.RowKit
set_option linter.unusedVariables false
set_option linter.unusedSimpArgs false
set_option maxHeartbeats 2000000

set_option maxRecDepth 20000 in
set_option maxHeartbeats 16000000 in
theorem iMostShifts (A : Option Addr) (n c : Nat) (xs : List ShiftR) (rest : Int) (w : World) (hn : n ≤ maxLen) (hA : ∀ ad, A = some ad → ad.spot = none) (hx : ReadsShift w A n xs) : Calls Try.prog 31 #[.slice A n c, .int .i64 rest] w (RowB (MostL n xs rest) w) := by
  obtain ⟨i0, hi0, hz0, hz1, hz2⟩ := info_parts infoIm
  have HX := Lib.hid hx
  have HA := Lib.hid hA
  have ownN : ∀ W : World, W.ownsRow w.heap.size 3 1 (.slice none 0 0) 0 (iv []) := fun W => ⟨rfl, .inl ⟨rfl, rfl⟩⟩
  have HN := Lib.hid ownN
  unfold maxLen at hn
  clear hx hA ownN
  by_cases h20 : n ≤ 20
  rotate_left
  · have HV := Lib.hid (most_f1 (xs := xs) (rest := rest) h20)
    have h20' : 20 < n := by omega
    go_enter Try.func31, Try.ntmps31
    go_wp2
    go_ret
    exact rowB_of (by rw [HV.out]; rfl) (by rw [HV.out]; exact HN.out _) (Below.refl _ _)
  have n20 : (n : Int) ≤ 20 := by omega
  go_enter Try.func31, Try.ntmps31
  go_wp2_with fail
  refine (iIn rest 0 24 _).mono ?_
  rintro _ _ ⟨rfl, rfl⟩
  cases h2 : inB rest 0 24
  · have HV := Lib.hid (most_f2 (n := n) (xs := xs) h2)
    go_wp2
    go_ret
    exact rowB_of (by rw [HV.out]; rfl) (by rw [HV.out]; exact HN.out _) (In.below (by (repeat (first | exact In.refl _ | assumption | apply In.alloc | apply In.drewN | apply In.drew | (refine In.step ?_ (by assumption))))))
  obtain ⟨r0, r24⟩ := inB_tt h2
  have HMF := Lib.hid (fun k hk h => most_f3 (n := n) (xs := xs) (rest := rest) k hk h)
  have HMT := Lib.hid (fun h => most_t (n := n) (xs := xs) (rest := rest) h20 h2 h)
  clear h2
  go_wp2
  go_loopw [21] (fun i wr => ∃ k : Nat, k ≤ n ∧ i = .int .i64 k ∧ (∀ i, i < k → shiftB (xs.getD i z22).f0 (xs.getD i z22).f1 = true) ∧ In w.heap.size w wr) (fun i _ => n - (intOf i).toNat)
  case atStart => exact ⟨0, Nat.zero_le _, rfl, fun i hi => absurd hi (Nat.not_lt_zero _), by (repeat (first | exact In.refl _ | assumption | apply In.alloc | apply In.drewN | apply In.drew | (refine In.step ?_ (by assumption))))⟩
  case round =>
    obtain ⟨k, hk, rfl, ho, hi⟩ := hrel
    have HO := Lib.hid ho
    clear ho
    by_cases hlt : k < n
    · obtain ⟨a, rfl, ha0, ha1⟩ := (HX.out.in_ hi).2 k hlt
      have HMk := Lib.hid (HMF.out k hlt)
      generalize hxk : xs.getD k z22 = x at *
      have HXE := Lib.hid hxk
      clear hxk
      obtain ⟨x0, x1⟩ := x
      simp only at ha0 ha1
      have q0 : Blk (wr.alloc (.cells #[.int .i64 x0, .int .i64 x1] 41)) wr.heap.size 41 #[.int .i64 x0, .int .i64 x1] := Blk.new wr _ _
      cases h1 : shiftB x0 x1
      · have HV := Lib.hid (HMk.out h1)
        go_wp2_with fail
        refine (ishiftOk x0 x1 _).mono ?_
        rintro _ w2 ⟨rfl, hb2⟩
        rw [h1]
        have hi2 := (hi.alloc (.cells #[.int .i64 x0, .int .i64 x1] 41)).step hb2
        clear hb2
        go_wp2
        go_ret
        exact rowB_of (by rw [HV.out]; rfl) (by rw [HV.out]; exact HN.out _) (In.below (by (repeat (first | exact In.refl _ | assumption | apply In.alloc | apply In.drewN | apply In.drew | (refine In.step ?_ (by assumption))))))
      · have HT : Hid (shiftB x0 x1 = true) := Lib.hid h1
        go_wp2_with fail
        refine (ishiftOk x0 x1 _).mono ?_
        rintro _ w2 ⟨rfl, hb2⟩
        rw [h1]
        have hi2 := (hi.alloc (.cells #[.int .i64 x0, .int .i64 x1] 41)).step hb2
        clear hb2 h1
        go_wp2
        go_roundw
        case rel => exact ⟨k + 1, by omega, by go_num, fun i hi => by
            by_cases e : i = k
            · subst e; rw [HXE.out]; exact HT.out
            · exact HO.out i (by omega), by (repeat (first | exact In.refl _ | assumption | apply In.alloc | apply In.drewN | apply In.drew | (refine In.step ?_ (by assumption))))⟩
        case measure => simp [intOf]; omega
    · obtain rfl : k = n := by omega
      have HV := Lib.hid (HMT.out HO.out)
      have hS := most_at (allOk_t _ _ HO.out)
      have HS := Lib.hid hS
      have HB := Lib.hid (fun t ht => pk_in (rest := rest) hS r0 r24 t ht)
      have HLn := Lib.hid (fun t => pk_len xs k rest t)
      have HOD := Lib.hid (fun t ht => od_lt (t := t) hS ht)
      have HBE := Lib.hid (fun W (h : ReadsShift W A k xs) => ibyEnd A k c xs W h20 HA.out hS h)
      clear hS HMF HMT hk hlt HO
      generalize hkn : k = n at *
      clear hkn k
      go_wp2_with fail
      refine (HBE.out _ (HX.out.in_ (by (repeat (first | exact In.refl _ | assumption | apply In.alloc | apply In.drewN | apply In.drew | (refine In.step ?_ (by assumption))))))).mono ?_
      rintro _ w2 ⟨A2, c2, rfl, hown2, hb2⟩
      have hr2 := reads_own_i hown2
      rw [odL_len] at hr2
      (try rw [odL_len])
      have hi2 := hi.step hb2
      have hw2 := hi2.size
      have own0 : w2.ownsRow w2.heap.size 3 1 (.slice none 0 0) 0 (iv []) := ⟨rfl, .inl ⟨rfl, rfl⟩⟩
      have HR2 := Lib.hid hr2
      have HX2 := Lib.hid (HX.out.in_ hi2)
      have HI2 := Lib.hid hi2
      clear hown2 hb2 HBE hr2 hi2 hi
      go_wp2
      go_loopw [7, 8, 32] (fun v f i wr => ∃ (t m : Nat), t ≤ n ∧ i = .int .i64 t ∧ (pk xs n rest t).1.length = m ∧ f = .int .i64 (pk xs n rest t).2 ∧ wr.ownsRow w2.heap.size 3 1 v m (iv (pk xs n rest t).1) ∧ In w2.heap.size w2 wr) (fun _ _ i _ => n - (intOf i).toNat)
      case atStart => exact ⟨0, 0, Nat.zero_le _, rfl, rfl, rfl, own0, In.refl _⟩
      case round =>
        clear own0
        obtain ⟨t, m, ht, rfl, hm, rfl, hown, hi⟩ := hrel
        obtain ⟨A1, c1, rfl⟩ := own_shape_i hown
        by_cases hlt : t < n
        · obtain ⟨d, rfl, hd⟩ := (HR2.out.below hi.below (Nat.le_refl _)).2 t hlt
          rw [odL_at _ _ _ hlt] at hd
          have hod := HOD.out t hlt
          have HPT := Lib.hid (pk_t (xs := xs) (n := n) (t := t) (rest := rest))
          have HPF := Lib.hid (pk_f (xs := xs) (n := n) (t := t) (rest := rest))
          have hfb := HB.out t ht
          have hml : m ≤ t := by rw [← hm]; exact HLn.out t
          obtain ⟨b, hbb⟩ : ∃ b, od xs n t = b := ⟨_, rfl⟩
          rw [hbb] at hd hod HPT HPF
          clear hbb
          have hsb := HS.out b hod
          have HCB : Hid (∀ W, In w2.heap.size w2 W → ∃ a, A = some a ∧ W.cell? (a.add (b * 2)) = some (.int .i64 (xs.getD b z22).f0) ∧ W.cell? ⟨(a.add (b * 2)).block, (a.add (b * 2)).off + 1, none⟩ = some (.int .i64 (xs.getD b z22).f1)) := Lib.hid fun W h => (HX2.out.in_ h).2 b hod
          generalize xs.getD b z22 = x at *
          obtain ⟨x0, x1⟩ := x
          simp only at hsb HCB HPT HPF
          generalize hF : (pk xs n rest t).2 = F at *
          generalize hL : (pk xs n rest t).1 = L at *
          have HM := Lib.hid hm
          have HLE := Lib.hid hL
          have HFE := Lib.hid hF
          clear hm hL hF
          obtain ⟨a, rfl, e0, e1⟩ := HCB.out _ hi
          have HC2 := Lib.hid (fun W (h : In w2.heap.size w2 W) => show W.cell? ⟨(a.add (b * 2)).block, (a.add (b * 2)).off + 1, none⟩ = some (.int .i64 x1) by
            obtain ⟨a', e, _, c⟩ := HCB.out W h
            injection e with e
            subst e
            exact c)
          have b1_ : (b : Int) < (n : Int) := by omega
          have t1_ : (t : Int) < (n : Int) := by omega
          have HIW := Lib.hid hi
          by_cases hge : F ≤ x0
          · have HNE := Lib.hid (HPT.out hge)
            have F1 : Hid (∀ u ∈ (#[Value.int .i64 (b : Int)] : Array Value).toList, u.oneCell' = true) := Lib.hid (one_lit _)
            have f12 : m + 1 ≤ maxLen := cap12 (by omega)
            have f13 : (m + 1) * 8 ≤ 140737488355328 := cap13 (by omega)
            have hz9 := hi.size
            have V1 : wrap64 (x1 + rest) = x1 + rest := w64 ⟨by omega, by omega⟩
            clear HPT HPF HCB
            go_wp2_with (at_builtin; refine wpList_app wr rfl (.tmp 43) (.tmp 45) 22 rfl w2.heap.size 3 i0 (.int .i64 0) 1 8 Try.underlying22 hi0 hz0 hz1 hz2 rfl Nat.one_pos (.slice A1 m c1) m (iv L) rfl hown 1 #[.int .i64 (b : Int)] rfl rfl F1.out f12 f13 hz9 ?_; intro v1 w1_ hown1 hbw1; have hi9 := HIW.out.wide hbw1; have cto := HC2.out _ hi9)
            have hown3 : w1_.ownsRow w2.heap.size 3 1 v1 (m + 1) (iv (L ++ [(b : Int)])) := by rw [iv_app]; exact hown1
            clear hown1 hbw1 hown f12 f13 hz9
            go_wp2
            go_roundw
            case rel => exact ⟨t + 1, m + 1, by omega, by go_num, by rw [HNE.out]; simp [HM.out], by rw [HNE.out], by rw [HNE.out]; exact hown3, hi9⟩
            case measure => simp [intOf]; omega
          · have hlt9 : x0 < F := by omega
            have HNE := Lib.hid (HPF.out hlt9)
            clear HPT HPF HCB
            have HOW := Lib.hid hown
            clear hown
            go_wp2
            go_roundw
            case rel => exact ⟨t + 1, m, by omega, by go_num, by rw [HNE.out, HLE.out]; exact HM.out, by rw [HNE.out, HFE.out], by rw [HNE.out, HLE.out]; exact own_step HOW.out (by (repeat (first | exact Below.refl _ _ | apply below_drewN | apply Below.drew | (refine Below.alloc ?_ (Nat.le_refl _) _)))), In.step hi (by (repeat (first | exact Below.refl _ _ | apply below_drewN | apply Below.drew | (refine Below.alloc ?_ (Nat.le_refl _) _))))⟩
            case measure => simp [intOf]; omega
        · obtain rfl : n = t := by omega
          have HM := Lib.hid hm
          have HO := Lib.hid hown
          clear hm hown
          go_wp2
          go_ret
          exact rowB_of (by rw [HV.out]; exact HM.out) (by rw [HV.out]; exact own_base (own_step HO.out (by (repeat (first | exact Below.refl _ _ | apply below_drewN | apply Below.drew | (refine Below.alloc ?_ (Nat.le_refl _) _))))) hw2) ((HI2.out.below.trans (hi.below.mono hw2)))
end Go.Proofs.Ythndjpklfgcpmaa
