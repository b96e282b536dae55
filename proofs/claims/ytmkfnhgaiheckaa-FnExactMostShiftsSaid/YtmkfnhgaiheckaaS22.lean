/- Chapter 22: MostShifts: the specification. -/
import Derived.Test.YtmkfnhgaiheckaaP22
import Derived.Test.YtmkfnhgaiheckaaMks
import Derived.Test.YtmkfnhgaiheckaaK31
import Derived.Test.YtmkfnhgaiheckaaQuietL
namespace Go.Proofs.Ytmkfnhgaiheckaa
open Go.ChangeShapes Go.WideShapes Go.ChangeAt Go.RowKit
set_option linter.unusedVariables false
set_option linter.unusedSimpArgs false
set_option maxHeartbeats 2000000

theorem most_f1 {n : Nat} {xs : List ShiftR} {rest : Int} (h : ¬ n ≤ 20) : MostL n xs rest = [] := by unfold MostL mostB; rw [decide_eq_false h]; rfl
theorem most_f2 {n : Nat} {xs : List ShiftR} {rest : Int} (h : inB rest 0 24 = false) : MostL n xs rest = [] := by unfold MostL mostB; rw [h]; simp
theorem most_f3 {n : Nat} {xs : List ShiftR} {rest : Int} (k : Nat) (hk : k < n) (h : shiftB (xs.getD k z22).f0 (xs.getD k z22).f1 = false) : MostL n xs rest = [] := by
  unfold MostL mostB
  rw [allOk_f _ _ k hk h]; simp
theorem most_t {n : Nat} {xs : List ShiftR} {rest : Int} (h1 : n ≤ 20) (h2 : inB rest 0 24 = true) (h3 : ∀ i, i < n → shiftB (xs.getD i z22).f0 (xs.getD i z22).f1 = true) : MostL n xs rest = (pk xs n rest n).1 := by
  unfold MostL mostB
  rw [allOk_t _ _ h3, decide_eq_true h1, h2]; rfl
theorem bs_t {xs : List ShiftR} {free : Int} {k : Nat} (h : free ≤ (xs.getD k z22).f0) (h2 : bs xs free k < 0 ∨ (xs.getD k z22).f1 < (xs.getD (bs xs free k).toNat z22).f1) : bs xs free (k + 1) = (k : Int) := by rw [bs, if_pos ⟨h, h2⟩]
theorem bs_f1 {xs : List ShiftR} {free : Int} {k : Nat} (h : (xs.getD k z22).f0 < free) : bs xs free (k + 1) = bs xs free k := by rw [bs, if_neg (by omega)]
theorem bs_f2 {xs : List ShiftR} {free : Int} {k : Nat} (h : 0 ≤ bs xs free k) (h2 : (xs.getD (bs xs free k).toNat z22).f1 ≤ (xs.getD k z22).f1) : bs xs free (k + 1) = bs xs free k := by rw [bs, if_neg (by omega)]
set_option maxRecDepth 20000 in
set_option maxHeartbeats 16000000 in
theorem sMostShifts (A : Option Addr) (n c : Nat) (xs : List ShiftR) (rest : Int) (w : World) (hn : n ≤ maxLen) (hx : ReadsShift w A n xs) : Calls Try.prog 58 #[.slice A n c, .int .i64 rest] w (RowB (MostL n xs rest) w) := by
  obtain ⟨i0, hi0, hz0, hz1, hz2⟩ := info_parts infoIm
  obtain ⟨j0, hj0, hy0, hy1, hy2⟩ := info_parts infoBm
  have own0 : (w.alloc (.cells #[] 3)).ownsRow w.heap.size 3 1 (.slice (some ⟨w.heap.size, 0, none⟩) 0 0) 0 (iv []) := own_new w 3 w.heap.size (Nat.le_refl _)
  have hI0 : In w.heap.size w (w.alloc (.cells #[] 3)) := by (repeat (first | exact In.refl _ | assumption | apply In.alloc | apply In.drewN | apply In.drew | (refine In.step ?_ (by assumption))))
  have HX := Lib.hid hx
  unfold maxLen at hn
  clear hx
  by_cases h20 : n ≤ 20
  rotate_left
  · have HV := Lib.hid (most_f1 (xs := xs) (rest := rest) h20)
    have h20' : 20 < n := by omega
    go_enter Try.func58, Try.ntmps58
    go_wp2
    go_ret
    exact rowB_of (by rw [HV.out]; rfl) (by rw [HV.out]; exact own0) hI0.below
  go_enter Try.func58, Try.ntmps58
  go_wp2_with fail
  generalize w.alloc (.cells #[] 3) = w0 at *
  refine (sIn rest 0 24 _).mono ?_
  rintro _ _ ⟨rfl, rfl⟩
  cases h2 : inB rest 0 24
  · have HV := Lib.hid (most_f2 (n := n) (xs := xs) h2)
    go_wp2
    go_ret
    exact rowB_of (by rw [HV.out]; rfl) (by rw [HV.out]; exact own_step own0 (by (repeat (first | exact Below.refl _ _ | apply below_drewN | apply Below.drew | (refine Below.alloc ?_ (Nat.le_refl _) _))))) (In.below (by (repeat (first | exact In.refl _ | assumption | apply In.alloc | apply In.drewN | apply In.drew | (refine In.step ?_ (by assumption))))))
  obtain ⟨r0, r24⟩ := inB_tt h2
  have HMF := Lib.hid (fun k hk h => most_f3 (n := n) (xs := xs) (rest := rest) k hk h)
  have HMT := Lib.hid (fun h => most_t (n := n) (xs := xs) (rest := rest) h20 h2 h)
  have HI0 := Lib.hid hI0
  have HO0 := Lib.hid own0
  clear h2 own0 hI0
  have hr0 : In w0.heap.size w0 w0.drew := (In.refl w0).drew
  go_wp2
  go_loopw [6] (fun i wr => ∃ k : Nat, k ≤ n ∧ i = .int .i64 k ∧ (∀ i, i < k → shiftB (xs.getD i z22).f0 (xs.getD i z22).f1 = true) ∧ In w0.heap.size w0 wr) (fun i _ => n - (intOf i).toNat)
  case atStart => exact ⟨0, Nat.zero_le _, rfl, fun i hi => absurd hi (Nat.not_lt_zero _), by (repeat (first | exact In.refl _ | assumption | apply In.alloc | apply In.drewN | apply In.drew | (refine In.step ?_ (by assumption))))⟩
  case round =>
    clear hr0
    obtain ⟨k, hk, rfl, ho, hi⟩ := hrel
    have HO := Lib.hid ho
    clear ho
    by_cases hlt : k < n
    · obtain ⟨a, rfl, ha0, ha1⟩ := (HX.out.in_ (HI0.out.step hi.below)).2 k hlt
      have HMk := Lib.hid (HMF.out k hlt)
      have HXK : Hid (xs.getD k z22 = xs.getD k z22) := Lib.hid rfl
      generalize hxk : xs.getD k z22 = x at *
      have HXE := Lib.hid hxk
      clear hxk
      obtain ⟨x0, x1⟩ := x
      simp only at ha0 ha1
      cases h1 : shiftB x0 x1
      · have HV := Lib.hid (HMk.out h1)
        go_wp2_with fail
        refine (sl22Ok x0 x1 _).mono ?_
        rintro _ w2 ⟨rfl, hb2⟩
        rw [h1]
        have hi2 := hi.step hb2
        clear hb2
        go_wp2
        go_ret
        exact rowB_of (by rw [HV.out]; rfl) (by rw [HV.out]; exact own_step HO0.out (In.below (by (repeat (first | exact In.refl _ | assumption | apply In.alloc | apply In.drewN | apply In.drew | (refine In.step ?_ (by assumption))))))) (In.below (HI0.out.step (In.below (by (repeat (first | exact In.refl _ | assumption | apply In.alloc | apply In.drewN | apply In.drew | (refine In.step ?_ (by assumption))))))))
      · have HT : Hid (shiftB x0 x1 = true) := Lib.hid h1
        go_wp2_with fail
        refine (sl22Ok x0 x1 _).mono ?_
        rintro _ w2 ⟨rfl, hb2⟩
        rw [h1]
        have hi2 := hi.step hb2
        clear hb2 h1
        go_wp2
        go_roundw
        case rel => exact ⟨k + 1, by omega, by go_num, fun i hi => by
            by_cases e : i = k
            · subst e; rw [HXE.out]; exact HT.out
            · exact HO.out i (by omega), by (repeat (first | exact In.refl _ | assumption | apply In.alloc | apply In.drewN | apply In.drew | (refine In.step ?_ (by assumption))))⟩
        case measure => simp [intOf]; omega
    · obtain rfl : k = n := by omega
      have HV := Lib.hid (HMT.out HO.out)
      have hS := most_at (allOk_t _ _ HO.out)
      have HS := Lib.hid hS
      have HB := Lib.hid (fun t ht => pk_in (rest := rest) hS r0 r24 t ht)
      have HP := Lib.hid (fun t ht => pk_past (rest := rest) hS r0 t ht)
      have HE := Lib.hid (fun t ht hb => pk_end (rest := rest) (t := t) hS ht hb)
      have HN := Lib.hid (fun t b ht hb => pk_next (rest := rest) (t := t) (b := b) hS r0 ht hb)
      have HLn := Lib.hid (fun t => pk_len xs k rest t)
      clear hS HMF HMT hk hlt HO
      have hown0 := own_step HO0.out hi.below
      have hI0 := HI0.out.step hi.below
      clear hi HO0 HI0
      generalize hkn : k = n at *
      clear hkn k
      obtain ⟨w9, hw9⟩ : ∃ q, q = wr := ⟨_, rfl⟩
      subst hw9
      go_wp2_with (at_make; refine wpList_make_full _ rfl (.tmp 35) (.tmp 35) 156 rfl w9.heap.size 4 j0 (.bool false) 1 Try.underlying156 hj0 hy0 hy1 .i64 .i64 (n : Int) (n : Int) n rfl rfl rfl rfl ?h2 ?h3 ?h4 ?_)
      case h2 => rw [hy2]; omega
      case h3 => unfold maxLen; omega
      case h4 => exact Nat.le_refl _
      intro w1 hown1 hgrow0
      have hb0 : Below w9.heap.size w9 w1 := (Below.refl _ _).grown hgrow0 (Nat.le_refl _) (fun j hj => by cases hj)
      have hM1 : Marks w1 w9.heap.size n (fun _ => false) := marks_made (by rw [toList_madeCells_one] at hown1; exact hown1)
      have hown2 := own_step hown0 hb0
      have hI1 := hI0.step hb0
      have hgw : w.heap.size ≤ w9.heap.size := hI0.size
      clear hgrow0 hown1 hb0 hown0 hI0
      generalize w9.heap.size = g at *
      go_wp2
      go_loopw [5, 7, 9, 10] (fun v f b0 k0 wr => ∃ (t : Nat) (m : Nat) (U : Nat → Bool), t ≤ n ∧ (pk xs n rest t).1.length = m ∧ f = .int .i64 (pk xs n rest t).2 ∧ wr.ownsRow w.heap.size 3 1 v m (iv (pk xs n rest t).1) ∧ Marks wr g n U ∧ (∀ i, i < n → U i = true → (xs.getD i z22).f0 < (pk xs n rest t).2) ∧ In w.heap.size w wr) (fun v _ _ _ _ => n - sliceLen v)
      case atStart => exact ⟨0, 0, fun _ => false, Nat.zero_le _, rfl, rfl, hown2, hM1, fun _ _ h => (by cases h), hI1⟩
      case round =>
        clear hown2 hM1 hI1
        obtain ⟨t, m, U, ht, hm, rfl, hown, hM, hU, hi⟩ := hrel
        obtain ⟨A1, c1, rfl⟩ := own_shape_i hown
        have hfb := HB.out t ht
        have HEt := Lib.hid (HE.out t ht)
        have HNt := Lib.hid (fun b => HN.out t b ht)
        have hlt : m ≤ t := by rw [← hm]; exact HLn.out t
        have HPK : Hid (∀ t', (pk xs n rest t').1.length ≤ t') := Lib.hid (fun t' => HLn.out t')
        generalize hF : (pk xs n rest t).2 = F at *
        generalize hL : (pk xs n rest t).1 = L at *
        have HLE := Lib.hid hL
        have HM := Lib.hid hm
        have HU := Lib.hid hU
        clear hF hL hm hU
        obtain ⟨w8, rfl⟩ : ∃ w8, w8 = wr := ⟨_, rfl⟩
        have HXW := Lib.hid (HX.out.in_ hi)
        have HOWN := Lib.hid hown
        have HMK := Lib.hid hM
        clear hown hM
        go_wp2
        go_loopw [9, 10] (fun b i wr => ∃ (k : Nat) (B : Int), k ≤ n ∧ i = .int .i64 k ∧ (∃ q, wr = w8.drewN q) ∧ b = .int .i64 B ∧ bs xs F k = B) (fun _ i _ => n - (intOf i).toNat)
        case atStart => exact ⟨0, -1, Nat.zero_le _, rfl, ⟨0, rfl⟩, rfl, rfl⟩
        case round =>
          obtain ⟨k, B, hk, rfl, ⟨q, rfl⟩, rfl, hB⟩ := hrel
          have hBi := bs_in xs F k
          rw [hB] at hBi
          by_cases hkn : k < n
          · obtain ⟨a, rfl, h0, h1⟩ := HXW.out.2 k hkn
            have ck := HMK.out.cell k hkn
            have HUk := Lib.hid (HU.out k hkn)
            have HT := Lib.hid (bs_t (xs := xs) (free := F) (k := k))
            have HF1 := Lib.hid (bs_f1 (xs := xs) (free := F) (k := k))
            have HF2 := Lib.hid (bs_f2 (xs := xs) (free := F) (k := k))
            rw [hB] at HT HF1 HF2
            have hS := HS.out k hkn
            have k1_ : (k : Int) < (n : Int) := by omega
            generalize U k = u at *
            have HOB : Hid (∀ b0 : Nat, B = (b0 : Int) → ∃ y : Int, (xs.getD B.toNat z22).f1 = y ∧ w8.cell? ⟨(a.add (b0 * 2)).block, (a.add (b0 * 2)).off + 1, none⟩ = some (.int .i64 y)) := Lib.hid fun b0 hb => by
              obtain ⟨a', ha', _, h3⟩ := HXW.out.2 b0 (by omega)
              injection ha' with ha'
              subst ha'
              exact ⟨_, by rw [hb, Int.toNat_natCast], h3⟩
            generalize xs.getD k z22 = x at *
            obtain ⟨x0, x1⟩ := x
            simp only at h0 h1 HT HF1 HF2 HUk hS
            cases hu : u
            · skip
              skip
              by_cases hf : F ≤ x0
              · by_cases hbn : B < 0
                · skip
                  have HNE := Lib.hid (HT.out hf (.inl hbn))
                  clear HT HF1 HF2 HOB HUk hS
                  go_wp2
                  go_quiet (fail)
                  (try clear hu)
                  go_wp2
                  go_roundw
                  case rel => exact ⟨k + 1, (k : Int), by omega, by go_num, ⟨_, rfl⟩, by first | rfl | trivial, HNE.out⟩
                  case measure => simp [intOf]; omega
                · skip
                  obtain ⟨b0, rfl⟩ : ∃ b0 : Nat, B = (b0 : Int) := ⟨B.toNat, by omega⟩
                  obtain ⟨y, hy, cy⟩ := HOB.out b0 rfl
                  rw [hy] at HT HF2
                  have b1_ : (b0 : Int) < (n : Int) := by omega
                  clear hy
                  by_cases hlt2 : x1 < y
                  · skip
                    have HNE := Lib.hid (HT.out hf (.inr hlt2))
                    clear HT HF1 HF2 HOB HUk hS
                    go_wp2
                    go_quiet (fail)
                    (try clear hu)
                    go_wp2
                    go_roundw
                    case rel => exact ⟨k + 1, (k : Int), by omega, by go_num, ⟨_, rfl⟩, by first | rfl | trivial, HNE.out⟩
                    case measure => simp [intOf]; omega
                  · skip
                    have hge2 : y ≤ x1 := by omega
                    have HNE := Lib.hid ((HF2.out (by omega) hge2))
                    clear HT HF1 HF2 HOB HUk hS
                    go_wp2
                    go_quiet (fail)
                    (try clear hu)
                    go_wp2
                    go_roundw
                    case rel => exact ⟨k + 1, (b0 : Int), by omega, by go_num, ⟨_, rfl⟩, by first | rfl | trivial, HNE.out⟩
                    case measure => simp [intOf]; omega
              · skip
                have hf2 : x0 < F := by omega
                have hd2 : decide (F ≤ x0) = false := decide_eq_false (by omega)
                have HNE := Lib.hid ((HF1.out hf2))
                clear HT HF1 HF2 HOB HUk hS
                go_wp2
                go_quiet (fail)
                (try clear hu)
                go_wp2
                go_roundw
                case rel => exact ⟨k + 1, B, by omega, by go_num, ⟨_, rfl⟩, by first | rfl | trivial, HNE.out⟩
                case measure => simp [intOf]; omega
            · skip
              have hf2 : x0 < F := HUk.out hu
              have HNE := Lib.hid ((HF1.out hf2))
              clear HT HF1 HF2 HOB HUk hS
              go_wp2
              go_quiet (fail)
              (try clear hu)
              go_wp2
              go_roundw
              case rel => exact ⟨k + 1, B, by omega, by go_num, ⟨_, rfl⟩, by first | rfl | trivial, HNE.out⟩
              case measure => simp [intOf]; omega
          · obtain rfl : k = n := by omega
            by_cases hbn : B < 0
            · have HV2 := Lib.hid (HV.out.trans ((congrArg Prod.fst (HEt.out (by rw [hB]; exact hbn))).trans HLE.out))
              have hb8 : Below w.heap.size w (w8.drewN q) := below_drewN hi.below q
              clear hB
              go_wp2
              go_ret
              exact rowB_of (by rw [HV2.out]; exact HM.out) (by rw [HV2.out]; exact own_step HOWN.out (by (repeat (first | exact Below.refl _ _ | apply below_drewN | apply Below.drew | (refine Below.alloc ?_ (Nat.le_refl _) _))))) (In.below (by (repeat (first | exact In.refl _ | assumption | apply In.alloc | apply In.drewN | apply In.drew | (refine In.step ?_ (by assumption))))))
            · obtain ⟨b0, rfl⟩ : ∃ b0 : Nat, B = (b0 : Int) := ⟨B.toNat, by omega⟩
              obtain ⟨t', ht1, ht2, hpk⟩ := HNt.out b0 hB
              obtain ⟨_, hFb, _⟩ := bs_some _ _ _ b0 hB
              have hb0n : b0 < k := by omega
              have hSb := HS.out b0 hb0n
              have HPE := Lib.hid hpk
              have HU2 : Hid (∀ i, i < k → (U i || (i == b0)) = true → (xs.getD i z22).f0 < (pk xs k rest t').2) := Lib.hid fun i hi hu => by
                rw [hpk]
                simp only []
                rw [Bool.or_eq_true] at hu
                rcases hu with hu | hu
                · have := HU.out i hi hu; omega
                · have : i = b0 := by simpa using hu
                  subst this; omega
              have HTO : Hid (∀ W, In w.heap.size w W → ∃ a, A = some a ∧ W.cell? ⟨(a.add (b0 * 2)).block, (a.add (b0 * 2)).off + 1, none⟩ = some (.int .i64 (xs.getD b0 z22).f1)) := Lib.hid fun W h => by
                obtain ⟨a, ha, _, h3⟩ := (HX.out.in_ h).2 b0 hb0n
                exact ⟨a, ha, h3⟩
              obtain ⟨y, hy⟩ : ∃ y, (xs.getD b0 z22).f1 = y := ⟨_, rfl⟩
              rw [hy] at HTO hSb HPE hpk
              have hyb : 0 ≤ y ∧ y ≤ 200 := by omega
              clear hpk hy hB hFb
              obtain ⟨w7, hw7⟩ : ∃ q', q' = w8.drewN q := ⟨_, rfl⟩
              have HMK7 : Marks w7 g k U := by rw [hw7]; exact HMK.out
              have hown7 : w7.ownsRow w.heap.size 3 1 (.slice A1 m c1) m (iv L) := by rw [hw7]; exact own_step HOWN.out (below_drewN (Below.refl _ _) _)
              have hi7 : In w.heap.size w w7 := by rw [hw7]; exact hi.drewN q
              rw [← hw7]
              clear hw7
              have cq := HMK7.cell b0 hb0n
              have zq := HMK7.free b0
              have ownI := own_far (t := b0) (u := .bool true) HMK7 hown7
              have hmk2 : Marks (w7.setCell ⟨g, b0, none⟩ (.bool true)) g k (fun i => U i || (i == b0)) := HMK7.set_ b0 fun u hu => rfl
              have hne := hmk2.ne ownI
              have hi2 : In w.heap.size w (w7.setCell ⟨g, b0, none⟩ (.bool true)) := hi7.set_ (p := ⟨g, b0, none⟩) hgw _
              have hBi := hi2.size
              have hM6 : m + 1 ≤ 1000000 := by omega
              have HMK2 := Lib.hid hmk2
              have SP : Hid ((w7.setCell ⟨g, b0, none⟩ (.bool true)).heap.size = w7.heap.size) := Lib.hid (by simp)
              have HNEE := Lib.hid hne
              clear hmk2 hne hown7 HMK7
              obtain ⟨a, rfl, _⟩ := HTO.out _ hi7
              have HT2 := Lib.hid (fun W (h : In w.heap.size w W) => show W.cell? ⟨(a.add (b0 * 2)).block, (a.add (b0 * 2)).off + 1, none⟩ = some (.int .i64 y) by
                obtain ⟨a', e, c⟩ := HTO.out W h
                injection e with e
                subst e
                exact c)
              have b1_ : (b0 : Int) < (k : Int) := by omega
              have V1 : wrap64 (y + rest) = y + rest := w64 ⟨by omega, by omega⟩
              go_wp2_with (first | (go_at_call 95; refine (sIn _ _ _ _).mono ?_; rintro e w' ⟨rfl, rfl⟩) | (go_at_call 105; refine (iIn _ _ _ _).mono ?_; rintro e w' ⟨rfl, rfl⟩) | (at_builtin; (refine wpList_app3 (w7.setCell ⟨g, b0, none⟩ (.bool true)) rfl (.tmp 81) (.tmp 83) 43 rfl w.heap.size i0 (.int .i64 0) Try.underlying43 hi0 hz0 hz1 hz2 rfl (.slice A1 m c1) m L rfl ownI (b0 : Int) ((show _ = Value.slice (some ⟨w7.heap.size, 0, none⟩) 1 1 from rfl).trans (congrArg (fun z => Value.slice (some ⟨z, 0, none⟩) 1 1) SP.out.symm)) hM6 hBi ?_); intro v9 w6 hown9 hgr9; have hi9 := hi2.grownOwn hgr9 (own_ge ownI); have cto := HT2.out _ hi9))
              have hmk9 := HMK2.out.grown hgr9 HNEE.out
              obtain ⟨A2, c2, rfl⟩ := own_shape_i hown9
              clear hgr9 ownI cq zq hi2 hBi
              go_wp2
              go_roundw
              case rel => exact ⟨t', m + 1, _, ht2, by rw [HPE.out]; simp [HM.out], by rw [HPE.out], by rw [HPE.out]; exact hown9, hmk9, HU2.out, hi9⟩
              case measure => simp only [sliceLen]; omega
end Go.Proofs.Ytmkfnhgaiheckaa
