/- Chapter 17: Reached: the model. -/
import Derived.Test.YtegkaemcoghbeaaR17
import Derived.Test.YtegkaemcoghbeaaBWays
import Derived.Test.YtegkaemcoghbeaaApp
namespace Go.Proofs.Ytegkaemcoghbeaa
open Go.ChangeShapes Go.WideShapes Go.ChangeAt Go.RowKit
set_option linter.unusedVariables false
set_option linter.unusedSimpArgs false
set_option maxHeartbeats 2000000

set_option maxRecDepth 20000 in
set_option maxHeartbeats 4000000 in
theorem sReached (A : Option Addr) (n c : Nat) (xs : List UseR) (a : Int) (w : World) (hn : n ≤ maxLen) (hx : ReadsUse w A n xs) : Calls Try.prog 20 #[.slice A n c, .int .i64 a] w (RowB (ReachedL n xs a) w) := by
  obtain ⟨i0, hi0, hz0, hz1, hz2⟩ := info_parts infoBo
  obtain ⟨j0, hj0, hy0, hy1, hy2⟩ := info_parts infoI
  have hw0 : In w.heap.size w (w.alloc (.cells #[] 3)) := by (repeat (first | exact In.refl _ | assumption | apply In.alloc | apply In.drewN | apply In.drew | (refine In.step ?_ (by assumption))))
  have HX := Lib.hid hx
  have HN := Lib.hid hn
  clear hx hn
  cases hB : usesB n xs
  · have HV : Hid (ReachedL n xs a = []) := Lib.hid (by simp [ReachedL, hB])
    have hown0 : (w.alloc (.cells #[] 3)).ownsRow w.heap.size 3 1 (.slice (some ⟨w.heap.size, 0, none⟩) 0 0) 0 (iv []) := own_new w 3 w.heap.size (Nat.le_refl _)
    go_enter Try.func20, Try.ntmps20
    go_wp2_with fail
    refine (sUsesOk A n c xs _ HN.out (HX.out.in_ hw0)).mono ?_
    rintro _ w1 ⟨rfl, hb1⟩
    rw [hB]
    have o1 := own_step hown0 hb1
    have i1 := In.step hw0 hb1
    clear hown0 hw0
    go_wp2
    go_ret
    rw [HV.out]
    exact rowB_of rfl o1 i1.below
  have HV : Hid (ReachedL n xs a = idxTo (reP n xs a) 51) := Lib.hid (by simp [ReachedL, hB])
  have HNM := Lib.hid (named_iff hB a)
  obtain ⟨h60, hs⟩ := uses_at hB
  have HS := Lib.hid hs
  clear hs
  have HSP : Hid (startP n xs a = startP n xs a) := Lib.hid rfl
  have ho0 : OwnC (w.alloc (.cells #[] 3)) w.heap.size 0 0 [] := own_lit w 3 #[] 0 w.heap.size rfl (Nat.le_refl _) (by unfold maxLen; omega)
  go_enter Try.func20, Try.ntmps20
  go_wp2_with fail
  refine (sUsesOk A n c xs _ HN.out (HX.out.in_ hw0)).mono ?_
  rintro _ w1 ⟨rfl, hb1⟩
  rw [hB]
  have o1 : OwnC w1 w.heap.size 0 0 [] := ho0.step hb1
  have i1 := In.step hw0 hb1
  clear ho0 hw0 hb1
  go_wp2_with (first | (at_make; refine wpList_make_full _ rfl (.const (.int .i64 51)) (.const (.int .i64 51)) 63 rfl w1.heap.size 4 i0 (.bool false) 1 Try.underlying63 hi0 hz0 hz1 .i64 .i64 (51 : Int) (51 : Int) 51 rfl rfl rfl rfl ?h2a ?h3a ?h4a ?_))
  case h2a => rw [hz2]; omega
  case h3a => unfold maxLen; omega
  case h4a => exact Nat.le_refl _
  intro w2 hown2 hg2
  have b2 : BWays w2 w1.heap.size 51 (fun _ => false) := bways_made (by rw [toList_madeCells_one] at hown2; exact hown2)
  have hbb2 : Below w1.heap.size w1 w2 := (Below.refl _ _).grown hg2 (Nat.le_refl _) (fun j hj => by cases hj)
  have i2 := In.step i1 hbb2
  have o2 := o1.step hbb2
  have HNE1 : Hid (w.heap.size ≠ w1.heap.size) := Lib.hid (by have := o1.lt; omega)
  have hg1b : w.heap.size ≤ w1.heap.size := i1.size
  clear o1 i1 hown2 hg2 hbb2
  generalize w1.heap.size = g1 at *
  go_wp2_with (first | (at_make; refine wpList_make_full _ rfl (.const (.int .i64 51)) (.const (.int .i64 51)) 63 rfl w2.heap.size 4 i0 (.bool false) 1 Try.underlying63 hi0 hz0 hz1 .i64 .i64 (51 : Int) (51 : Int) 51 rfl rfl rfl rfl ?h2b ?h3b ?h4b ?_))
  case h2b => rw [hz2]; omega
  case h3b => unfold maxLen; omega
  case h4b => exact Nat.le_refl _
  intro w3 hown3 hg3
  have b3 : BWays w3 w2.heap.size 51 (fun _ => false) := bways_made (by rw [toList_madeCells_one] at hown3; exact hown3)
  have hbb3 : Below w2.heap.size w2 w3 := (Below.refl _ _).grown hg3 (Nat.le_refl _) (fun j hj => by cases hj)
  have i3 := In.step i2 hbb3
  have o3 := o2.step hbb3
  have a3 := b2.below hbb3
  have HNE : Hid (g1 ≠ w2.heap.size) := Lib.hid (by have := b2.lt; omega)
  have HNE2 : Hid (w.heap.size ≠ w2.heap.size) := Lib.hid (by have := o2.lt; omega)
  have hg2b : w.heap.size ≤ w2.heap.size := i2.size
  clear o2 i2 b2 hown3 hg3 hbb3
  generalize w2.heap.size = g2 at *
  have hbl := BreadsOfL_len n xs a
  go_wp2_with fail
  refine (sBreadsOf A n c xs a _ HN.out (HX.out.in_ (by (repeat (first | exact In.refl _ | assumption | apply In.alloc | apply In.drewN | apply In.drew | (refine In.step ?_ (by assumption))))))).mono ?_
  rintro _ w4 ⟨B4, c4, rfl, hob4, hb4⟩
  have i4 : In w.heap.size w w4 := In.step (by (repeat (first | exact In.refl _ | assumption | apply In.alloc | apply In.drewN | apply In.drew | (refine In.step ?_ (by assumption))))) hb4
  have o4 : OwnC w4 w.heap.size 0 0 [] := o3.step hb4
  have a4 := a3.below hb4
  have b4 := b3.below hb4
  clear i3 o3 a3 b3 hb4 hob4
  by_cases hpos : 0 < (BreadsOfL n xs a).length
  · obtain ⟨k0, hk0, hka⟩ := HNM.out.1 hpos
    have hr0 := use_in (HS.out k0 hk0)
    rw [hka] at hr0
    obtain ⟨u, rfl⟩ := Int.eq_ofNat_of_zero_le (show 0 ≤ a by omega)
    have hu51 : (u : Int) < 51 := by omega
    have hu51' : u < 51 := by omega
    have hS0 : startP n xs (u : Int) = (insP (fun _ => false) u, fun _ => false) := by rw [startP, if_pos hpos]
    have HS0 := Lib.hid hS0
    have hp' : (0 : Int) < ((BreadsOfL n xs u).length : Int) := by omega
    clear hS0 hk0 hka hr0
    generalize (BreadsOfL n xs u).length = bl at *
    have cu := a4.cell u (by omega)
    have fu := a4.free u
    have l1 := a4.lt
    have HA4 := Lib.hid a4
    have HB4 := Lib.hid b4
    have HI4 := Lib.hid i4
    have HO4 := Lib.hid o4
    clear a4 b4 i4 o4
    go_wp2
    have a5 : BWays (w4.setCell ⟨g1, u, none⟩ (.bool true)) g1 51 (fun t => (startP n xs u).1 t) := HA4.out.set_ u true _ (by rw [HS0.out]; exact insP_s (p := fun _ => false)) (fun t ht => by rw [HS0.out]; simp only [insP]; rw [decide_eq_false (by omega)]; rfl) (by omega)
    have b5 : BWays (w4.setCell ⟨g1, u, none⟩ (.bool true)) g2 51 (fun t => (startP n xs u).2 t) := by rw [HS0.out]; exact HB4.out.other (fun h => HNE.out h.symm)
    have i5 : In w.heap.size w (w4.setCell ⟨g1, u, none⟩ (.bool true)) := In.set_ HI4.out (p := ⟨g1, u, none⟩) hg1b _
    have o5 : OwnC (w4.setCell ⟨g1, u, none⟩ (.bool true)) w.heap.size 0 0 [] := HO4.out.only (only_setCell (only_refl _ _) (p := ⟨g1, u, none⟩) (.inl rfl) _) HNE1.out
    clear cu fu l1 HA4 HB4 HI4 HO4 HS0
    generalize w4.setCell ⟨g1, u, none⟩ (.bool true) = w5 at *
    go_loopw [8] (fun i wr => ∃ r : Nat, r ≤ 60 ∧ i = .int .i64 r ∧ BWays wr g1 51 (fun t => (rnds n xs (startP n xs u) r).1 t) ∧ BWays wr g2 51 (fun t => (rnds n xs (startP n xs u) r).2 t) ∧ OwnC wr w.heap.size 0 0 [] ∧ In w.heap.size w wr) (fun i _ => 60 - (intOf i).toNat)
    case atStart => exact ⟨0, by omega, rfl, a5, b5, o5, i5⟩
    case round =>
      clear a5 b5 o5 i5
      obtain ⟨r, hr, rfl, hL, hB2, ho, hi⟩ := hrel
      by_cases hlt : r < 60
      · have HRN : Hid (rnds n xs (startP n xs u) (r + 1) = rnd xs (rnds n xs (startP n xs u) r) n) := Lib.hid rfl
        generalize rnds n xs (startP n xs u) r = S at hL hB2 HRN
        have HLT := Lib.hid hlt
        have hrI : (r : Int) < 60 := by omega
        clear hlt hr
        obtain ⟨w6, rfl⟩ : ∃ w6, w6 = wr := ⟨_, rfl⟩
        have HI6 := Lib.hid hi
        have HO6 := Lib.hid ho
        have hL6 : BWays w6 g1 51 (fun t => (rnd xs S 0).1 t) := hL
        have hB6 : BWays w6 g2 51 (fun t => (rnd xs S 0).2 t) := hB2
        clear hL hB2 hi ho
        go_wp2
        go_loopw [9] (fun i wr => ∃ k : Nat, k ≤ n ∧ i = .int .i64 k ∧ BWays wr g1 51 (fun t => (rnd xs S k).1 t) ∧ BWays wr g2 51 (fun t => (rnd xs S k).2 t) ∧ OwnC wr w.heap.size 0 0 [] ∧ In w.heap.size w wr) (fun i _ => n - (intOf i).toNat)
        case atStart => exact ⟨0, Nat.zero_le _, rfl, hL6, hB6, HO6.out, HI6.out⟩
        case round =>
          clear hL6 hB6
          obtain ⟨k, hk, rfl, hL, hB2, ho, hi⟩ := hrel
          by_cases hkn : k < n
          · obtain ⟨a', rfl, ha0, ha1, ha2⟩ := (HX.out.in_ hi).2 k hkn
            have HB := use_in (HS.out k hkn)
            have HC := Lib.hid (rk_cases xs (rnd xs S k) k)
            have HRS : Hid (rnd xs S (k + 1) = rk xs (rnd xs S k) k) := Lib.hid rfl
            generalize xs.getD k z17 = x at ha0 ha1 ha2 HB HC
            obtain ⟨x0, x1, x2⟩ := x
            simp only at ha0 ha1 ha2 HB HC
            obtain ⟨u, rfl⟩ := Int.eq_ofNat_of_zero_le (show 0 ≤ x0 by omega)
            obtain ⟨v, rfl⟩ := Int.eq_ofNat_of_zero_le (show 0 ≤ x1 by omega)
            generalize rnd xs S k = T at hL hB2 HC HRS
            have cu := hL.cell u (by omega)
            have cv := hB2.cell v (by omega)
            have fu := hL.free u
            have fv := hB2.free v
            have l1 := hL.lt
            have l2 := hB2.lt
            have hu51 : (u : Int) < 51 := by omega
            have hv51 : (v : Int) < 51 := by omega
            have hu51' : u < 51 := by omega
            have hv51' : v < 51 := by omega
            have HLW := Lib.hid hL
            have HBW := Lib.hid hB2
            have hne : ¬ g1 = g2 := HNE.out
            have hne' : ¬ g2 = g1 := fun h => HNE.out h.symm
            have HIW := Lib.hid hi
            have HOW := Lib.hid ho
            clear hL hB2 HB hi ho
            cases hLu : T.1 (u : Int) <;> cases hBv : T.2 (v : Int)
            case false.false =>
              have HE : Hid (rnd xs S (k + 1) = T) := Lib.hid (by rw [HRS.out]; rcases HC.out with ⟨h, _⟩ | ⟨_, e⟩; (· rw [hLu, hBv] at h; cases h); exact e)
              rw [hLu] at cu
              rw [hBv] at cv
              clear HC HRS
              go_wp2
              have hi := HIW.out
              have ho := HOW.out
              have hLW := HLW.out
              have hBW := HBW.out
              go_roundw
              case rel => exact ⟨k + 1, by omega, by go_num, by rw [HE.out]; exact hLW.alloc _, by rw [HE.out]; exact hBW.alloc _, ho.alloc _, by (repeat (first | exact In.refl _ | assumption | apply In.alloc | apply In.drewN | apply In.drew | (refine In.step ?_ (by assumption))))⟩
              case measure => simp [intOf]; omega
            all_goals
              have HE : Hid (rnd xs S (k + 1) = (insP T.1 u, insP T.2 v)) := Lib.hid (by rw [HRS.out]; rcases HC.out with ⟨_, e⟩ | ⟨h, _⟩; (· exact e); rw [hLu, hBv] at h; cases h)
              rw [hLu] at cu
              rw [hBv] at cv
              clear HC HRS
              go_wp2
              have hi := HIW.out
              have ho := HOW.out
              have hLW := HLW.out
              have hBW := HBW.out
              go_roundw
              case rel => exact ⟨k + 1, by omega, by go_num, by
                  rw [HE.out]
                  exact BWays.alloc (BWays.other (BWays.set_ hLW u true _ (insP_s (p := T.1)) (fun t ht => insP_o (p := T.1) (k := u) (x := t) (by omega)) (by omega)) HNE.out) _, by
                  rw [HE.out]
                  exact BWays.alloc (BWays.set_ (BWays.other hBW (fun h => HNE.out h.symm)) v true _ (insP_s (p := T.2)) (fun t ht => insP_o (p := T.2) (k := v) (x := t) (by omega)) (by omega)) _, ((ho.only (only_setCell (only_refl _ _) (p := ⟨g1, u, none⟩) (.inl rfl) _) HNE1.out).only (only_setCell (only_refl _ _) (p := ⟨g2, v, none⟩) (.inl rfl) _) HNE2.out).alloc _, (In.set_ (In.set_ hi (p := ⟨g1, u, none⟩) hg1b _) (p := ⟨g2, v, none⟩) hg2b _).alloc _⟩
              case measure => simp [intOf]; omega
          · obtain rfl : n = k := by omega
            go_wp2
            have hlt := HLT.out
            go_roundw
            case rel => exact ⟨r + 1, by omega, by go_num, by rw [HRN.out]; exact hL, by rw [HRN.out]; exact hB2, ho, hi⟩
            case measure => simp [intOf]; omega
      · have hr6 : r = 60 := by omega
        have hrI6 : ¬ ((r : Int) < 60) := by omega
        have hL9 : BWays wr g1 51 (fun t => reP n xs (u : Int) t) := by rw [hr6] at hL; exact hL
        have HR6 := Lib.hid hr6
        clear hr6
        have HP1 : Hid (idxTo (reP n xs (u : Int)) 1 = []) := Lib.hid (idxTo_f (by
          cases e : reP n xs (u : Int) 0
          · rfl
          · have := Rch.range hB ((reach_iff hB (u : Int) (0 : Nat)).1 e)
            omega))
        obtain ⟨w6, rfl⟩ : ∃ w6, w6 = wr := ⟨_, rfl⟩
        have HV9 : Hid (ReachedL n xs (u : Int) = idxTo (reP n xs (u : Int)) 51) := HV
        clear hL hB2 hr HNM hlt
        generalize reP n xs (u : Int) = P at *
        go_wp2
        go_loopw [5, 11] (fun v i wr => ∃ l g c : Nat, l ≤ 51 ∧ 1 ≤ l ∧ i = .int .i64 l ∧ v = .slice (some ⟨g, 0, none⟩) (idxTo P l).length c ∧ OwnC wr g (idxTo P l).length c (idxTo P l) ∧ w.heap.size ≤ g ∧ g ≠ g1 ∧ BWays wr g1 51 (fun t => P t) ∧ In w.heap.size w wr) (fun _ i _ => 51 - (intOf i).toNat)
        case atStart => exact ⟨1, w.heap.size, 0, by omega, by omega, rfl, by rw [HP1.out]; rfl, by rw [HP1.out]; exact ho, Nat.le_refl _, HNE1.out, hL9, hi⟩
        case round =>
          clear hL9 ho hi
          obtain ⟨l, g, c, hl, hl1, rfl, rfl, ho, hgw, hgn, hL, hi⟩ := hrel
          by_cases hlt : l < 51
          · have HL2 := idxTo_len P l
            have HT := Lib.hid (fun h => idxTo_t (p := P) (k := l) h)
            have HF := Lib.hid (fun h => idxTo_f (p := P) (k := l) h)
            generalize hLL : idxTo P l = L at ho HL2 HT HF
            generalize hp : L.length = p at ho HL2
            have HM := Lib.hid hp
            have HLT := Lib.hid hlt
            have hlI : (l : Int) ≤ 50 := by omega
            have hlI2 : (l : Int) < 51 := by omega
            have hp60 : p + 1 ≤ 1000000 := by omega
            have cl := hL.cell l hlt
            have l1 := hL.lt
            have HLW := Lib.hid hL
            have HOW := Lib.hid ho
            have HIW := Lib.hid hi
            have HGN := Lib.hid hgn
            clear hLL hp HL2 hlt hl hL ho hi hgn
            cases hPl : P l
            · have HE := Lib.hid (HF.out hPl)
              rw [hPl] at cl
              go_wp2
              go_roundw
              case rel => exact ⟨l + 1, g, c, by have := HLT.out; omega, by omega, by go_num, by rw [HE.out, HM.out], by rw [HE.out, HM.out]; exact HOW.out, hgw, HGN.out, HLW.out, HIW.out⟩
              case measure => have := HLT.out; simp [intOf]; omega
            · have HE := Lib.hid (HT.out hPl)
              rw [hPl] at cl
              have hown := HOW.out
              obtain ⟨w7, rfl⟩ : ∃ w7, w7 = wr := ⟨_, rfl⟩
              go_wp2_with (first | (go_at_call 46; refine (sIn _ _ _ _).mono ?_; rintro e w' ⟨rfl, rfl⟩) | (go_at_call 48; refine (iIn _ _ _ _).mono ?_; rintro e w' ⟨rfl, rfl⟩) | (at_builtin; refine wpList_app2 w7 rfl (.tmp 69) (.tmp 71) 24 rfl j0 (.int .i64 0) Try.underlying24 hj0 hy0 hy1 hy2 rfl g p c L rfl hown (l : Int) rfl hp60 ?_; intro g9 c9 w9 hown9 hg9 hgr9))
              have hi9 : In w.heap.size w w9 := In.wide HIW.out (below_of_only hgr9 hgw HIW.out.size)
              have hL9 := HLW.out.only hgr9 (fun h => HGN.out h.symm)
              have hlp : (idxTo P (l + 1)).length = p + 1 := by rw [HE.out, List.length_append, HM.out]; rfl
              have HLP := Lib.hid hlp
              have hgw9 : w.heap.size ≤ g9 := by rcases hg9 with rfl | h; exact hgw; exact Nat.le_trans HIW.out.size h
              have hgn9 : g9 ≠ g1 := by rcases hg9 with rfl | h; exact HGN.out; omega
              have HG9 := Lib.hid hgn9
              have HOW9 : Hid (OwnC w9 g9 (p + 1) c9 (L ++ [(l : Int)])) := Lib.hid hown9
              clear hlp hown9 hgr9 hg9 hgn9 hown
              go_wp2
              go_roundw
              case rel => exact ⟨l + 1, g9, c9, by have := HLT.out; omega, by omega, by go_num, by rw [HLP.out], by rw [HLP.out, HE.out]; exact HOW9.out, hgw9, HG9.out, hL9, hi9⟩
              case measure => have := HLT.out; simp [intOf]; omega
          · obtain rfl : l = 51 := by omega
            go_wp2
            go_ret
            rw [HV9.out]
            exact rowB_of rfl (own_base ho hgw) hi.below
  · have hS0 : startP n xs a = (fun _ => false, fun _ => false) := by rw [startP, if_neg hpos]
    have hp' : ¬ (0 : Int) < ((BreadsOfL n xs a).length : Int) := by omega
    have a5 : BWays w4 g1 51 (fun t => (startP n xs a).1 t) := by rw [hS0]; exact a4
    have b5 : BWays w4 g2 51 (fun t => (startP n xs a).2 t) := by rw [hS0]; exact b4
    have o5 := o4
    have i5 := i4
    clear hS0 a4 b4 i4 o4
    generalize (BreadsOfL n xs a).length = bl at *
    go_wp2
    generalize w4 = w5 at *
    go_loopw [8] (fun i wr => ∃ r : Nat, r ≤ 60 ∧ i = .int .i64 r ∧ BWays wr g1 51 (fun t => (rnds n xs (startP n xs a) r).1 t) ∧ BWays wr g2 51 (fun t => (rnds n xs (startP n xs a) r).2 t) ∧ OwnC wr w.heap.size 0 0 [] ∧ In w.heap.size w wr) (fun i _ => 60 - (intOf i).toNat)
    case atStart => exact ⟨0, by omega, rfl, a5, b5, o5, i5⟩
    case round =>
      clear a5 b5 o5 i5
      obtain ⟨r, hr, rfl, hL, hB2, ho, hi⟩ := hrel
      by_cases hlt : r < 60
      · have HRN : Hid (rnds n xs (startP n xs a) (r + 1) = rnd xs (rnds n xs (startP n xs a) r) n) := Lib.hid rfl
        generalize rnds n xs (startP n xs a) r = S at hL hB2 HRN
        have HLT := Lib.hid hlt
        have hrI : (r : Int) < 60 := by omega
        clear hlt hr
        obtain ⟨w6, rfl⟩ : ∃ w6, w6 = wr := ⟨_, rfl⟩
        have HI6 := Lib.hid hi
        have HO6 := Lib.hid ho
        have hL6 : BWays w6 g1 51 (fun t => (rnd xs S 0).1 t) := hL
        have hB6 : BWays w6 g2 51 (fun t => (rnd xs S 0).2 t) := hB2
        clear hL hB2 hi ho
        go_wp2
        go_loopw [9] (fun i wr => ∃ k : Nat, k ≤ n ∧ i = .int .i64 k ∧ BWays wr g1 51 (fun t => (rnd xs S k).1 t) ∧ BWays wr g2 51 (fun t => (rnd xs S k).2 t) ∧ OwnC wr w.heap.size 0 0 [] ∧ In w.heap.size w wr) (fun i _ => n - (intOf i).toNat)
        case atStart => exact ⟨0, Nat.zero_le _, rfl, hL6, hB6, HO6.out, HI6.out⟩
        case round =>
          clear hL6 hB6
          obtain ⟨k, hk, rfl, hL, hB2, ho, hi⟩ := hrel
          by_cases hkn : k < n
          · obtain ⟨a', rfl, ha0, ha1, ha2⟩ := (HX.out.in_ hi).2 k hkn
            have HB := use_in (HS.out k hkn)
            have HC := Lib.hid (rk_cases xs (rnd xs S k) k)
            have HRS : Hid (rnd xs S (k + 1) = rk xs (rnd xs S k) k) := Lib.hid rfl
            generalize xs.getD k z17 = x at ha0 ha1 ha2 HB HC
            obtain ⟨x0, x1, x2⟩ := x
            simp only at ha0 ha1 ha2 HB HC
            obtain ⟨u, rfl⟩ := Int.eq_ofNat_of_zero_le (show 0 ≤ x0 by omega)
            obtain ⟨v, rfl⟩ := Int.eq_ofNat_of_zero_le (show 0 ≤ x1 by omega)
            generalize rnd xs S k = T at hL hB2 HC HRS
            have cu := hL.cell u (by omega)
            have cv := hB2.cell v (by omega)
            have fu := hL.free u
            have fv := hB2.free v
            have l1 := hL.lt
            have l2 := hB2.lt
            have hu51 : (u : Int) < 51 := by omega
            have hv51 : (v : Int) < 51 := by omega
            have hu51' : u < 51 := by omega
            have hv51' : v < 51 := by omega
            have HLW := Lib.hid hL
            have HBW := Lib.hid hB2
            have hne : ¬ g1 = g2 := HNE.out
            have hne' : ¬ g2 = g1 := fun h => HNE.out h.symm
            have HIW := Lib.hid hi
            have HOW := Lib.hid ho
            clear hL hB2 HB hi ho
            cases hLu : T.1 (u : Int) <;> cases hBv : T.2 (v : Int)
            case false.false =>
              have HE : Hid (rnd xs S (k + 1) = T) := Lib.hid (by rw [HRS.out]; rcases HC.out with ⟨h, _⟩ | ⟨_, e⟩; (· rw [hLu, hBv] at h; cases h); exact e)
              rw [hLu] at cu
              rw [hBv] at cv
              clear HC HRS
              go_wp2
              have hi := HIW.out
              have ho := HOW.out
              have hLW := HLW.out
              have hBW := HBW.out
              go_roundw
              case rel => exact ⟨k + 1, by omega, by go_num, by rw [HE.out]; exact hLW.alloc _, by rw [HE.out]; exact hBW.alloc _, ho.alloc _, by (repeat (first | exact In.refl _ | assumption | apply In.alloc | apply In.drewN | apply In.drew | (refine In.step ?_ (by assumption))))⟩
              case measure => simp [intOf]; omega
            all_goals
              have HE : Hid (rnd xs S (k + 1) = (insP T.1 u, insP T.2 v)) := Lib.hid (by rw [HRS.out]; rcases HC.out with ⟨_, e⟩ | ⟨h, _⟩; (· exact e); rw [hLu, hBv] at h; cases h)
              rw [hLu] at cu
              rw [hBv] at cv
              clear HC HRS
              go_wp2
              have hi := HIW.out
              have ho := HOW.out
              have hLW := HLW.out
              have hBW := HBW.out
              go_roundw
              case rel => exact ⟨k + 1, by omega, by go_num, by
                  rw [HE.out]
                  exact BWays.alloc (BWays.other (BWays.set_ hLW u true _ (insP_s (p := T.1)) (fun t ht => insP_o (p := T.1) (k := u) (x := t) (by omega)) (by omega)) HNE.out) _, by
                  rw [HE.out]
                  exact BWays.alloc (BWays.set_ (BWays.other hBW (fun h => HNE.out h.symm)) v true _ (insP_s (p := T.2)) (fun t ht => insP_o (p := T.2) (k := v) (x := t) (by omega)) (by omega)) _, ((ho.only (only_setCell (only_refl _ _) (p := ⟨g1, u, none⟩) (.inl rfl) _) HNE1.out).only (only_setCell (only_refl _ _) (p := ⟨g2, v, none⟩) (.inl rfl) _) HNE2.out).alloc _, (In.set_ (In.set_ hi (p := ⟨g1, u, none⟩) hg1b _) (p := ⟨g2, v, none⟩) hg2b _).alloc _⟩
              case measure => simp [intOf]; omega
          · obtain rfl : n = k := by omega
            go_wp2
            have hlt := HLT.out
            go_roundw
            case rel => exact ⟨r + 1, by omega, by go_num, by rw [HRN.out]; exact hL, by rw [HRN.out]; exact hB2, ho, hi⟩
            case measure => simp [intOf]; omega
      · have hr6 : r = 60 := by omega
        have hrI6 : ¬ ((r : Int) < 60) := by omega
        have hL9 : BWays wr g1 51 (fun t => reP n xs a t) := by rw [hr6] at hL; exact hL
        have HR6 := Lib.hid hr6
        clear hr6
        have HP1 : Hid (idxTo (reP n xs a) 1 = []) := Lib.hid (idxTo_f (by
          cases e : reP n xs a 0
          · rfl
          · have := Rch.range hB ((reach_iff hB a (0 : Nat)).1 e)
            omega))
        obtain ⟨w6, rfl⟩ : ∃ w6, w6 = wr := ⟨_, rfl⟩
        have HV9 : Hid (ReachedL n xs a = idxTo (reP n xs a) 51) := HV
        clear hL hB2 hr HNM hlt
        generalize reP n xs a = P at *
        go_wp2
        go_loopw [5, 11] (fun v i wr => ∃ l g c : Nat, l ≤ 51 ∧ 1 ≤ l ∧ i = .int .i64 l ∧ v = .slice (some ⟨g, 0, none⟩) (idxTo P l).length c ∧ OwnC wr g (idxTo P l).length c (idxTo P l) ∧ w.heap.size ≤ g ∧ g ≠ g1 ∧ BWays wr g1 51 (fun t => P t) ∧ In w.heap.size w wr) (fun _ i _ => 51 - (intOf i).toNat)
        case atStart => exact ⟨1, w.heap.size, 0, by omega, by omega, rfl, by rw [HP1.out]; rfl, by rw [HP1.out]; exact ho, Nat.le_refl _, HNE1.out, hL9, hi⟩
        case round =>
          clear hL9 ho hi
          obtain ⟨l, g, c, hl, hl1, rfl, rfl, ho, hgw, hgn, hL, hi⟩ := hrel
          by_cases hlt : l < 51
          · have HL2 := idxTo_len P l
            have HT := Lib.hid (fun h => idxTo_t (p := P) (k := l) h)
            have HF := Lib.hid (fun h => idxTo_f (p := P) (k := l) h)
            generalize hLL : idxTo P l = L at ho HL2 HT HF
            generalize hp : L.length = p at ho HL2
            have HM := Lib.hid hp
            have HLT := Lib.hid hlt
            have hlI : (l : Int) ≤ 50 := by omega
            have hlI2 : (l : Int) < 51 := by omega
            have hp60 : p + 1 ≤ 1000000 := by omega
            have cl := hL.cell l hlt
            have l1 := hL.lt
            have HLW := Lib.hid hL
            have HOW := Lib.hid ho
            have HIW := Lib.hid hi
            have HGN := Lib.hid hgn
            clear hLL hp HL2 hlt hl hL ho hi hgn
            cases hPl : P l
            · have HE := Lib.hid (HF.out hPl)
              rw [hPl] at cl
              go_wp2
              go_roundw
              case rel => exact ⟨l + 1, g, c, by have := HLT.out; omega, by omega, by go_num, by rw [HE.out, HM.out], by rw [HE.out, HM.out]; exact HOW.out, hgw, HGN.out, HLW.out, HIW.out⟩
              case measure => have := HLT.out; simp [intOf]; omega
            · have HE := Lib.hid (HT.out hPl)
              rw [hPl] at cl
              have hown := HOW.out
              obtain ⟨w7, rfl⟩ : ∃ w7, w7 = wr := ⟨_, rfl⟩
              go_wp2_with (first | (go_at_call 46; refine (sIn _ _ _ _).mono ?_; rintro e w' ⟨rfl, rfl⟩) | (go_at_call 48; refine (iIn _ _ _ _).mono ?_; rintro e w' ⟨rfl, rfl⟩) | (at_builtin; refine wpList_app2 w7 rfl (.tmp 69) (.tmp 71) 24 rfl j0 (.int .i64 0) Try.underlying24 hj0 hy0 hy1 hy2 rfl g p c L rfl hown (l : Int) rfl hp60 ?_; intro g9 c9 w9 hown9 hg9 hgr9))
              have hi9 : In w.heap.size w w9 := In.wide HIW.out (below_of_only hgr9 hgw HIW.out.size)
              have hL9 := HLW.out.only hgr9 (fun h => HGN.out h.symm)
              have hlp : (idxTo P (l + 1)).length = p + 1 := by rw [HE.out, List.length_append, HM.out]; rfl
              have HLP := Lib.hid hlp
              have hgw9 : w.heap.size ≤ g9 := by rcases hg9 with rfl | h; exact hgw; exact Nat.le_trans HIW.out.size h
              have hgn9 : g9 ≠ g1 := by rcases hg9 with rfl | h; exact HGN.out; omega
              have HG9 := Lib.hid hgn9
              have HOW9 : Hid (OwnC w9 g9 (p + 1) c9 (L ++ [(l : Int)])) := Lib.hid hown9
              clear hlp hown9 hgr9 hg9 hgn9 hown
              go_wp2
              go_roundw
              case rel => exact ⟨l + 1, g9, c9, by have := HLT.out; omega, by omega, by go_num, by rw [HLP.out], by rw [HLP.out, HE.out]; exact HOW9.out, hgw9, HG9.out, hL9, hi9⟩
              case measure => have := HLT.out; simp [intOf]; omega
          · obtain rfl : l = 51 := by omega
            go_wp2
            go_ret
            rw [HV9.out]
            exact rowB_of rfl (own_base ho hgw) hi.below
end Go.Proofs.Ytegkaemcoghbeaa
