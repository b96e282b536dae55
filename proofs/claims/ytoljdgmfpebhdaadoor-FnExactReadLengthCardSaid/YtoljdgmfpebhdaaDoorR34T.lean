/- Chapter 34: the model reads times and lengths. -/
import Derived.Test.YtoljdgmfpebhdaaDoorR34S
namespace Go.Proofs.YtoljdgmfpebhdaaDoor
open Go.ChangeShapes Go.WideShapes Go.ChangeAt Go.RowKit
set_option linter.unusedVariables false
set_option linter.unusedSimpArgs false
set_option maxHeartbeats 2000000

theorem ext_take (s : ByteArray) (k : Nat) : (s.extract 0 k).data.toList = s.data.toList.take k := by
  simp [ByteArray.data_extract]
set_option maxHeartbeats 4000000 in
theorem sReadLength (s : ByteArray) (w : World) (hm : s.size ≤ maxLen) : Calls Tryd.prog 11 #[.string s] w (Val (rdL s) w) := by
  unfold maxLen at hm
  have g1 : 9 < s.size → rdL s = .tuple #[.int .i64 0, .bool false] := fun hs => rdL_no s fun m h e => by have := lenB_size m h; rw [e] at this; omega
  have g2 : s.size = 0 → rdL s = .tuple #[.int .i64 0, .bool false] := fun h0 => rdL_no s fun m h e => lenB_ne m h (by rw [e]; exact ByteArray.ext (Array.eq_empty_of_size_eq_zero h0))
  have HX := Lib.hid (rdL_hit (s := s) (n := (lgo s.data.toList (0, 0)).1))
  have HY := Lib.hid (rdL_sum (s := s))
  generalize rdL s = R at g1 g2 HX HY ⊢
  have G1 := Lib.hid g1
  have G2 := Lib.hid g2
  clear g1 g2
  by_cases hs : 9 < s.size
  · have HE := Lib.hid (G1.out hs)
    go_enter Tryd.func11, Tryd.ntmps11
    go_wp2
    go_ret2
    exact Val.mk' HE.out.symm (In.refl _)
  have hs9 : s.size ≤ 9 := by omega
  clear hm
  go_enter Tryd.func11, Tryd.ntmps11
  go_wp2
  go_loop [4, 5, 6] (fun n p i => ∃ k : Nat, k ≤ s.size ∧ i = .int .i64 k ∧ n = .int .i64 (lgo (s.data.toList.take k) (0, 0)).1 ∧ p = .int .i64 (lgo (s.data.toList.take k) (0, 0)).2) (fun _ _ i => s.size - (intOf i).toNat)
  case atStart => exact ⟨0, Nat.zero_le _, rfl, rfl, rfl⟩
  case round =>
    obtain ⟨k, hk, rfl, rfl, rfl⟩ := hrel
    obtain ⟨b0, b1, b2, b3⟩ := lgo_take s hs9 k
    by_cases hlt : k < s.size
    · have HS := Lib.hid (lgo_snoc s k hlt)
      have hc := UInt8.toNat_lt s[k]
      generalize lgo (s.data.toList.take k) (0, 0) = q at b0 b1 b2 b3 HS ⊢
      obtain ⟨n, p⟩ := q
      simp only [] at b0 b1 b2 b3
      by_cases h1 : 48 ≤ (s[k].toNat : Int)
      · by_cases h2 : (s[k].toNat : Int) ≤ 57
        · have HV := Lib.hid (HS.out.trans (show lstep n p s[k].toNat = (n, 10 * p + ((s[k].toNat : Int) - 48)) from if_pos ⟨h1, h2⟩))
          go_wp2
          go_round
          case rel => exact ⟨k + 1, by omega, by go_num, by rw [HV.out], by rw [HV.out]⟩
          case measure => simp [intOf]; omega
        · by_cases h3 : (s[k].toNat : Int) = 104
          · have HV := Lib.hid (HS.out.trans (show lstep n p s[k].toNat = (n + 60 * p, 0) by unfold lstep; rw [if_neg (by omega), if_pos h3]))
            go_wp2
            go_round
            case rel => exact ⟨k + 1, by omega, by go_num, by rw [HV.out], by rw [HV.out]⟩
            case measure => simp [intOf]; omega
          · by_cases h4 : (s[k].toNat : Int) = 109
            · have HV := Lib.hid (HS.out.trans (show lstep n p s[k].toNat = (n + p, 0) by unfold lstep; rw [if_neg (by omega), if_neg h3, if_pos h4]))
              go_wp2
              go_round
              case rel => exact ⟨k + 1, by omega, by go_num, by rw [HV.out], by rw [HV.out]⟩
              case measure => simp [intOf]; omega
            · have HV := Lib.hid (HS.out.trans (show lstep n p s[k].toNat = (n, p) by unfold lstep; rw [if_neg (by omega), if_neg h3, if_neg h4]))
              go_wp2
              go_round
              case rel => exact ⟨k + 1, by omega, by go_num, by rw [HV.out], by rw [HV.out]⟩
              case measure => simp [intOf]; omega
      · have HV := Lib.hid (HS.out.trans (show lstep n p s[k].toNat = (n, p) by unfold lstep; rw [if_neg (by omega), if_neg (by omega), if_neg (by omega)]))
        have n3 : ¬ (s[k].toNat : Int) = 104 := by omega
        have n4 : ¬ (s[k].toNat : Int) = 109 := by omega
        go_wp2
        go_round
        case rel => exact ⟨k + 1, by omega, by go_num, by rw [HV.out], by rw [HV.out]⟩
        case measure => simp [intOf]; omega
    · obtain rfl : k = s.size := by omega
      have hfull : s.data.toList.take s.size = s.data.toList := List.take_of_length_le (by simp)
      rw [hfull]
      rw [hfull] at b0 b1 b2 b3
      clear hfull hk hlt
      generalize lgo s.data.toList (0, 0) = q at b0 b1 b2 b3 HX HY ⊢
      obtain ⟨n, p⟩ := q
      simp only [] at b0 b1 b2 b3 HX HY ⊢
      by_cases h0 : s.size = 0
      · have HE := Lib.hid (G2.out h0)
        obtain rfl : s = ⟨#[]⟩ := ByteArray.ext (Array.eq_empty_of_size_eq_zero h0)
        clear h0
        go_wp2
        go_ret2
        exact Val.mk' HE.out.symm (In.refl _)
      · have hne0 : ¬ s.toList = [] := fun e => h0 (by rw [ByteArray.toList_eq] at e; have := congrArg List.length e; simpa using this)
        have hne1 : s.toList.isEmpty = false := by simp [hne0]
        have HG := Lib.hid (fun W => sLengthText n W)
        by_cases h : lenB n = s
        · have HE := Lib.hid (HX.out h h0)
          rw [h] at HG
          clear h HX HY
          go_wp2_with fail
          refine (HG.out _).mono ?_
          rintro _ w1 ⟨rfl, hb1⟩
          go_wp2
          go_ret2
          exact Val.mk' HE.out.symm (In.step (In.refl _) hb1)
        · have HE := Lib.hid (HY.out h)
          obtain ⟨l, hl⟩ : ∃ l, l = (lenB n).data.toList := ⟨_, rfl⟩
          have hs : lenB n = ⟨l.toArray⟩ := by subst hl; rfl
          rw [hs] at HG h
          have hne := str_ne s l (fun e => h (by subst e; rfl))
          clear h hl hs HX HY
          go_wp2_with fail
          refine (HG.out _).mono ?_
          rintro _ w1 ⟨rfl, hb1⟩
          go_wp2
          go_ret2
          exact Val.mk' HE.out.symm (In.step (In.refl _) hb1)
set_option maxHeartbeats 4000000 in
theorem sReadTime (s : ByteArray) (w : World) (hm : s.size ≤ maxLen) : Calls Tryd.prog 9 #[.string s] w (Val (rdT s) w) := by
  unfold maxLen at hm
  have g1 : ¬ (4 ≤ s.size ∧ s.size ≤ 5) → rdT s = .tuple #[.int .i64 0, .bool false] := fun hs => rdT_no s fun m h e => hs (time_parts h e).1
  have g2 : (∀ m : Nat, m ≤ 1439 → timeB (m : Int) ≠ s) → rdT s = .tuple #[.int .i64 0, .bool false] := fun h => rdT_no s h
  have g3 := fun n (h : timeB n = s) => rdT_hit (n := n) h
  have G4 := Lib.hid (fun m (hm : m ≤ 1439) (e : timeB ((m : Nat) : Int) = s) => time_parts hm e)
  generalize rdT s = R at g1 g2 g3 ⊢
  have G1 := Lib.hid g1
  have G2 := Lib.hid g2
  have G3 := Lib.hid g3
  clear g1 g2 g3
  by_cases hs : 4 ≤ s.size ∧ s.size ≤ 5
  · obtain ⟨hs4, hs5⟩ := hs
    have HI : inB (s.size : Int) 4 5 = true := inB_t (by omega)
    obtain ⟨h, one, hu⟩ := uintRes_form (s.data.toList.take (s.size - 3))
    have HU := Lib.hid hu
    clear hu
    have hsub : wrap64 ((s.size : Int) - 3) = ((s.size - 3 : Nat) : Int) := by rw [w64 ⟨by omega, by omega⟩]; omega
    go_enter Tryd.func9, Tryd.ntmps9
    go_wp2_with fail
    refine (sInE HI _).mono ?_
    rintro _ w1 ⟨rfl, rfl⟩
    have HPU : Hid (∀ W, Calls Tryd.prog 31 #[.string (s.extract 0 (s.size - 3))] W (Val (.tuple #[.int .i64 h, .bool one]) W)) := Lib.hid (fun W => by
      have hx := specPu (s.extract 0 (s.size - 3)) W (by rw [ByteArray.size_extract]; omega)
      rw [ext_take, HU.out] at hx
      exact hx)
    go_wp2_with fail
    refine (HPU.out _).mono ?_
    rintro _ w1 ⟨rfl, hb1⟩
    have i1 : In w.heap.size w w1 := In.step (In.refl _) hb1
    clear hb1 HPU
    obtain ⟨q, hq⟩ : ∃ q, s.size = q + 2 := ⟨s.size - 2, by omega⟩
    have hsub2 : wrap64 ((s.size : Int) - 2) = (q : Int) := by rw [w64 ⟨by omega, by omega⟩]; omega
    go_wp2
    go_loop [7, 8] (fun m i => ∃ j : Nat, j ≤ 2 ∧ i = .int .i64 ((q + j : Nat) : Int) ∧ m = .int .i64 (mvl s j) ∧ (∀ t, t < j → isD (s.data.toList.getD (s.size - 2 + t) 0)) ∧ 0 ≤ mvl s j ∧ mvl s j ≤ 10 ^ j - 1) (fun _ i => s.size - (intOf i).toNat)
    case atStart => exact ⟨0, by omega, by first | rfl | (congr 1; omega), rfl, fun t ht => absurd ht (Nat.not_lt_zero _), (show (0 : Int) ≤ 0 by decide), (show (0 : Int) ≤ 10 ^ 0 - 1 by decide)⟩
    case round =>
      obtain ⟨j, hj, rfl, rfl, hd, m0, m1⟩ := hrel
      have HD := Lib.hid hd
      clear hd
      by_cases hlt : j < 2
      · have hk : q + j < s.size := by omega
        have hg : s.data.toList.getD (s.size - 2 + j) 0 = s[q + j] := by
          rw [show s.size - 2 + j = q + j by omega, List.getD_eq_getElem?_getD, List.getElem?_eq_getElem (by simpa using hk)]
          simp [ByteArray.getElem_eq_getElem_data]
        have HM := Lib.hid (show mvl s (j + 1) = 10 * mvl s j + ((s[q + j].toNat : Int) - 48) by rw [mvl, hg])
        have HGD := Lib.hid hg
        clear hg
        have hc := UInt8.toNat_lt s[q + j]
        have hp : (10 : Int) ^ j ≤ 10 ∧ (10 : Int) ^ (j + 1) = 10 ^ j * 10 := ⟨by
          have : j = 0 ∨ j = 1 := by omega
          rcases this with rfl | rfl <;> decide, Int.pow_succ 10 j⟩
        have HP := Lib.hid hp
        by_cases h1 : (s[q + j].toNat : Int) < 48
        · have HE := Lib.hid (G2.out fun m hm e => by
            have g := G4.out m hm e
            have : isD (s.data.toList.getD (s.size - 2 + j) 0) := by
              have : j = 0 ∨ j = 1 := by omega
              rcases this with rfl | rfl
              · exact g.2.2.1
              · exact g.2.2.2.1
            rw [HGD.out] at this
            unfold isD at this
            omega)
          clear hp
          go_wp2
          go_ret2
          exact Val.mk' HE.out.symm i1
        · by_cases h2 : (57 : Int) < (s[q + j].toNat : Int)
          · have HE := Lib.hid (G2.out fun m hm e => by
              have g := G4.out m hm e
              have : isD (s.data.toList.getD (s.size - 2 + j) 0) := by
                have : j = 0 ∨ j = 1 := by omega
                rcases this with rfl | rfl
                · exact g.2.2.1
                · exact g.2.2.2.1
              rw [HGD.out] at this
              unfold isD at this
              omega)
            clear hp
            go_wp2
            go_ret2
            exact Val.mk' HE.out.symm i1
          · have hdd : isD s[q + j] := by unfold isD; omega
            have HDD := Lib.hid (show ∀ t, t < j + 1 → isD (s.data.toList.getD (s.size - 2 + t) 0) from fun t ht => by
              by_cases e : t = j
              · subst e; rw [HGD.out]; exact hdd
              · exact HD.out t (by omega))
            clear hdd
            have m1' : mvl s j ≤ 9 := by have := hp.1; omega
            have HB := Lib.hid (show 0 ≤ 10 * mvl s j + ((s[q + j].toNat : Int) - 48) ∧ 10 * mvl s j + ((s[q + j].toNat : Int) - 48) ≤ 10 ^ (j + 1) - 1 by rw [HP.out.2]; generalize (10 : Int) ^ j = X at m1 ⊢; omega)
            clear hp m1
            generalize mvl s j = v at *
            go_wp2
            go_round
            case rel => exact ⟨j + 1, by omega, by go_num, by rw [HM.out], HDD.out, by rw [HM.out]; exact HB.out.1, by rw [HM.out]; exact HB.out.2⟩
            case measure => simp [intOf]; omega
      · obtain rfl : j = 2 := by omega
        have m1' : mvl s 2 ≤ 99 := by have : (10 : Int) ^ 2 = 100 := by decide
                                      omega
        have GV := Lib.hid (show ∀ m : Nat, m ≤ 1439 → timeB (m : Int) = s → h = ((m / 60 : Nat) : Int) ∧ one = true ∧ mvl s 2 = ((m % 60 : Nat) : Int) from fun m hm e => by
          have g := G4.out m hm e
          have g1 := g.2.1
          rw [HU.out] at g1
          simp at g1
          exact ⟨g1.1, g1.2, g.2.2.2.2⟩)
        have HP0 := Lib.hid (fun (e : one = true) => uint_pos (l := s.data.toList.take (s.size - 3)) (n := h) (by rw [HU.out, e]))
        generalize mvl s 2 = v at *
        clear m1 hlt
        cases one
        · have HE := Lib.hid (G2.out fun m hm e => by have := (GV.out m hm e).2.1; simp at this)
          go_wp2
          go_ret2
          exact Val.mk' HE.out.symm i1
        have hpos := HP0.out rfl
        by_cases c1 : 23 < h
        · have HE := Lib.hid (G2.out fun m hm e => by have := (GV.out m hm e).1; omega)
          go_wp2
          go_ret2
          exact Val.mk' HE.out.symm i1
        by_cases c2 : 59 < v
        · have HE := Lib.hid (G2.out fun m hm e => by have := (GV.out m hm e).2.2; omega)
          go_wp2
          go_ret2
          exact Val.mk' HE.out.symm i1
        have HG := Lib.hid (fun W => sTimeText (60 * h + v) W)
        by_cases ht : timeB (60 * h + v) = s
        · have HE := Lib.hid (G3.out _ ht hs4)
          rw [ht] at HG
          clear ht
          go_wp2_with fail
          refine (HG.out _).mono ?_
          rintro _ w2 ⟨rfl, hb2⟩
          have i2 : In w.heap.size w w2 := In.step i1 hb2
          go_wp2
          go_ret2
          exact Val.mk' HE.out.symm i2
        · have HE := Lib.hid (G2.out fun m hm e => ht (by
            have g := GV.out m hm e
            rw [show 60 * h + v = (m : Int) by omega]; exact e))
          obtain ⟨l, hl⟩ : ∃ l, l = (timeB (60 * h + v)).data.toList := ⟨_, rfl⟩
          have hsl : timeB (60 * h + v) = ⟨l.toArray⟩ := by subst hl; rfl
          rw [hsl] at HG ht
          have hne := str_ne s l (fun e => ht (by subst e; rfl))
          clear ht hl hsl
          go_wp2_with fail
          refine (HG.out _).mono ?_
          rintro _ w2 ⟨rfl, hb2⟩
          have i2 : In w.heap.size w w2 := In.step i1 hb2
          go_wp2
          go_ret2
          exact Val.mk' HE.out.symm i2
  · have HE := Lib.hid (G1.out hs)
    have HI : inB (s.size : Int) 4 5 = false := inB_f (by omega)
    clear hs
    go_enter Tryd.func9, Tryd.ntmps9
    go_wp2_with fail
    refine (sInE HI _).mono ?_
    rintro _ w1 ⟨rfl, rfl⟩
    go_wp2
    go_ret2
    exact Val.mk' HE.out.symm (In.refl _)
end Go.Proofs.YtoljdgmfpebhdaaDoor
