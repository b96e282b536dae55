/- Chapter 10: ApartBreads of the model. -/
import Derived.Test.YthadanmiomeehabApt
import Derived.Test.YthadanmiomeehabSBread
import Derived.Test.YthadanmiomeehabIntR
import Derived.Test.YthadanmiomeehabIn
import Derived.IntWalk
namespace Go.Proofs.Ythadanmiomeehab
open Go.ChangeShapes Go.WideShapes Go.ChangeAt Go.RowKit
set_option linter.unusedVariables false
set_option linter.unusedSimpArgs false
set_option maxHeartbeats 2000000

def BestP (xs : List BreadR) (h : Int) (k : Nat) (b : Int) : Prop := (b = -1 ∧ ∀ i, i < k → ¬ h < loI xs i) ∨ ∃ j : Nat, b = j ∧ j < k ∧ h < loI xs j ∧ ∀ i, i < k → h < loI xs i → hiI xs j < hiI xs i ∨ (hiI xs j = hiI xs i ∧ j ≤ i)
theorem bp_0 (xs : List BreadR) (h : Int) : BestP xs h 0 (-1) := .inl ⟨rfl, fun i hi => by omega⟩
theorem bp_no {xs : List BreadR} {h : Int} {k : Nat} {b : Int} (hb : BestP xs h k b) (hn : ¬ h < loI xs k) : BestP xs h (k + 1) b := by
  rcases hb with ⟨e, hb⟩ | ⟨j, e, hj, h1, h2⟩
  · exact .inl ⟨e, fun i hi => by
      by_cases c : i = k
      · subst c; exact hn
      · exact hb i (by omega)⟩
  · exact .inr ⟨j, e, by omega, h1, fun i hi hc => by
      by_cases c : i = k
      · subst c; exact absurd hc hn
      · exact h2 i (by omega) hc⟩
theorem bp_new {xs : List BreadR} {h : Int} {k : Nat} (hb : BestP xs h k (-1)) (hn : h < loI xs k) : BestP xs h (k + 1) k := by
  rcases hb with ⟨_, hb⟩ | ⟨j, e, _⟩
  · exact .inr ⟨k, rfl, by omega, hn, fun i hi hc => by
      by_cases c : i = k
      · subst c; exact .inr ⟨rfl, Nat.le_refl _⟩
      · exact absurd hc (hb i (by omega))⟩
  · omega
theorem bp_lt {xs : List BreadR} {h : Int} {k j : Nat} (hb : BestP xs h k j) (hn : h < loI xs k) (hl : hiI xs k < hiI xs j) : BestP xs h (k + 1) k := by
  rcases hb with ⟨e, _⟩ | ⟨j', e, hj, h1, h2⟩
  · omega
  · obtain rfl : j = j' := by omega
    exact .inr ⟨k, rfl, by omega, hn, fun i hi hc => by
      by_cases c : i = k
      · subst c; exact .inr ⟨rfl, Nat.le_refl _⟩
      · have := h2 i (by omega) hc; exact .inl (by omega)⟩
theorem bp_keep {xs : List BreadR} {h : Int} {k j : Nat} (hb : BestP xs h k j) (hl : ¬ hiI xs k < hiI xs j) : BestP xs h (k + 1) j := by
  rcases hb with ⟨e, _⟩ | ⟨j', e, hj, h1, h2⟩
  · omega
  · obtain rfl : j = j' := by omega
    exact .inr ⟨j, rfl, by omega, h1, fun i hi hc => by
      by_cases c : i = k
      · subst c
        rcases Int.lt_or_eq_of_le (show hiI xs j ≤ hiI xs i by omega) with h3 | h3
        · exact .inl h3
        · exact .inr ⟨h3, by omega⟩
      · exact h2 i (by omega) hc⟩
theorem bp_end {xs : List BreadR} {h : Int} {n j : Nat} (hb : BestP xs h n j) : j < n ∧ h < loI xs j ∧ ¬ nxI xs n h < 0 ∧ nxB xs n h = j := by
  rcases hb with ⟨e, _⟩ | ⟨j', e, hj, h1, h2⟩
  · omega
  · obtain rfl : j = j' := by omega
    obtain ⟨_, h3, h4⟩ := nx_best hj h1 h2
    exact ⟨hj, h1, h3, h4⟩
theorem bp_end0 {xs : List BreadR} {h : Int} {n : Nat} (hb : BestP xs h n (-1)) : nxI xs n h < 0 := by
  rcases hb with ⟨_, hb⟩ | ⟨j, e, _⟩
  · rw [nx_best0 hb]; omega
  · omega
theorem bp_nat {xs : List BreadR} {h : Int} {k : Nat} {b : Int} (hb : BestP xs h k b) : b = -1 ∨ ∃ j : Nat, b = j ∧ j < k := by
  rcases hb with ⟨e, _⟩ | ⟨j, e, hj, _⟩
  · exact .inl e
  · exact .inr ⟨j, e, hj⟩
set_option maxHeartbeats 4000000 in
theorem sApartBreads (A : Option Addr) (n c : Nat) (xs : List BreadR) (w : World) (hn : n ≤ maxLen) (hx : ReadsBread w A n xs) : Calls Try.prog 23 #[.slice A n c] w (RowB (ApartBreadsL n xs) w) := by
  obtain ⟨i0, hi0, hz0, hz1, hz2⟩ := info_parts infoI
  have hm : n ≤ maxLen := hn
  unfold maxLen at hn
  have hown := own_lit w 3 #[] 0 w.heap.size rfl (Nat.le_refl _) (by unfold maxLen; omega)
  have in0 : In w.heap.size w (w.alloc (.cells #[] 3)) := by (repeat (first | exact In.refl _ | assumption | apply In.alloc | apply In.drewN | apply In.drew | (refine In.step ?_ (by assumption))))
  have HX := Lib.hid hx
  go_enter Try.func23, Try.ntmps23
  go_wp2_with fail
  refine (sl10Ok A n c xs _ hm (by (with_reducible (repeat (first | assumption | apply ReadsI.drewN | apply ReadsI.drew | apply ReadsI.alloc | apply ReadsBread.drew | apply ReadsBread.alloc))))).mono ?_
  rintro _ w1 ⟨rfl, hb1⟩
  have i1 : In w.heap.size w w1 := in0.step hb1
  have hown1 : w1.ownsRow w.heap.size 3 1 (.slice (some ⟨w.heap.size, 0, none⟩) 0 0) 0 (iv []) := own_step hown hb1
  clear hb1 hown in0 hx
  cases h0 : breadsB n xs
  · have HR : Hid (RowB (ApartBreadsL n xs) w (.returned (.slice (some ⟨w.heap.size, 0, none⟩) 0 0)) w1) := Lib.hid (by
      have e : ApartBreadsL n xs = [] := by simp [ApartBreadsL, h0]
      rw [e]; exact rowB_of rfl hown1 i1.below)
    clear hown1
    go_wp2
    go_ret
    exact HR.out
  obtain ⟨h10, hin⟩ := breads_at h0
  have HV : Hid (ApartBreadsL n xs = apF xs n 400 0) := Lib.hid (by simp [ApartBreadsL, h0])
  have HIN : Hid (∀ i, i < n → 100 ≤ loI xs i ∧ loI xs i ≤ hiI xs i ∧ hiI xs i ≤ 350) := Lib.hid (fun i hi => by have := hin i hi; unfold loI hiI; omega)
  clear hin h0
  go_wp2
  go_loopw [3, 4] (fun v hh wr => ∃ (acc : List Int) (f : Nat) (h : Int), hh = .int .i64 h ∧ 0 ≤ h ∧ h ≤ 350 ∧ 351 ≤ f + h ∧ acc.length + f ≤ 400 ∧ acc ++ apF xs n f h = apF xs n 400 0 ∧ wr.ownsRow w.heap.size 3 1 v acc.length (iv acc) ∧ In w.heap.size w wr) (fun _ hh _ => 351 - (intOf hh).toNat)
  case atStart => exact ⟨[], 400, 0, rfl, by omega, by omega, by omega, by simp, rfl, hown1, i1⟩
  case round =>
    clear hown1 i1
    obtain ⟨acc, f, h, rfl, g1, g2, g3, g4, hacc, hown, hi⟩ := hrel
    have HACC := Lib.hid hacc
    clear hacc
    obtain ⟨A1, c1, rfl⟩ := own_shape_i hown
    obtain ⟨w8, rfl⟩ : ∃ w8, w8 = wr := ⟨_, rfl⟩
    generalize hm9 : acc.length = m at *
    have HM := Lib.hid hm9
    clear hm9
    go_wp2
    go_loopw [5, 6] (fun b k wr2 => ∃ (t : Nat) (bb : Int), t ≤ n ∧ k = .int .i64 t ∧ b = .int .i64 bb ∧ BestP xs h t bb ∧ In w8.heap.size w8 wr2) (fun _ k _ => n - (intOf k).toNat)
    case atStart => exact ⟨0, -1, Nat.zero_le _, rfl, rfl, bp_0 xs h, In.refl _⟩
    case round =>
      obtain ⟨t, bb, ht, rfl, rfl, hbp, hi2⟩ := hrel
      have i3 : In w.heap.size w wr := hi.trans hi2
      have hxr := HX.out.in_ i3
      have hown2 := own_step hown hi2.below
      have HBP := Lib.hid hbp
      clear hbp
      by_cases hlt : t < n
      · obtain ⟨a, rfl, ha0, ha1, ha2⟩ := hxr.2 t hlt
        have HL : Hid (loI xs t = (xs.getD t z10).f0) := Lib.hid rfl
        have HH : Hid (hiI xs t = (xs.getD t z10).f1) := Lib.hid rfl
        have hbn := bp_nat HBP.out
        have hrd : ∀ j, j < n → wr.cell? ⟨(a.add (j * 3)).block, (a.add (j * 3)).off + 1, none⟩ = some (.int .i64 (hiI xs j)) := fun j hj => by
          obtain ⟨a', ha', _, h1, _⟩ := hxr.2 j hj
          injection ha' with ha'
          subst ha'
          exact h1
        have HRD := Lib.hid hrd
        generalize xs.getD t z10 = e at *
        obtain ⟨x0, x1, x2⟩ := e
        simp only at ha0 ha1 ha2 HL HH
        clear hown2 hxr ha2 hrd
        by_cases hl : h < x0
        · have hd : decide (h < x0) = true := decide_eq_true hl
          rcases hbn with rfl | ⟨j, rfl, hj⟩
          · have HN := Lib.hid (bp_new HBP.out (by rw [HL.out]; exact hl))
            go_wp2
            go_quiet (fail)
            go_wp2
            go_roundw
            case rel => exact ⟨t + 1, (t : Int), by omega, by go_num, rfl, HN.out, by (repeat (first | exact In.refl _ | assumption | apply In.alloc | apply In.drewN | apply In.drew | (refine In.step ?_ (by assumption))))⟩
            case measure => simp [intOf]; omega
          · have hjn : j < n := by omega
            have hcj := HRD.out j hjn
            have hd0 : decide ((j : Int) < 0) = false := decide_eq_false (by omega)
            have HLT := Lib.hid (fun hq => bp_lt HBP.out (by rw [HL.out]; exact hl) hq)
            have HKP := Lib.hid (fun hq => bp_keep HBP.out hq)
            rw [HH.out] at HLT HKP
            generalize hiI xs j = y at *
            by_cases hy : x1 < y
            · have hd1 : decide (x1 < y) = true := decide_eq_true hy
              have HN := Lib.hid (HLT.out hy)
              clear HLT HKP
              go_wp2
              go_quiet (fail)
              go_wp2
              go_roundw
              case rel => exact ⟨t + 1, (t : Int), by omega, by go_num, rfl, HN.out, by (repeat (first | exact In.refl _ | assumption | apply In.alloc | apply In.drewN | apply In.drew | (refine In.step ?_ (by assumption))))⟩
              case measure => simp [intOf]; omega
            · have hd1 : decide (x1 < y) = false := decide_eq_false hy
              have HN := Lib.hid (HKP.out hy)
              clear HLT HKP
              go_wp2
              go_quiet (fail)
              go_wp2
              go_roundw
              case rel => exact ⟨t + 1, (j : Int), by omega, by go_num, rfl, HN.out, by (repeat (first | exact In.refl _ | assumption | apply In.alloc | apply In.drewN | apply In.drew | (refine In.step ?_ (by assumption))))⟩
              case measure => simp [intOf]; omega
        · have hd : decide (h < x0) = false := decide_eq_false hl
          have HN := Lib.hid (bp_no HBP.out (by rw [HL.out]; exact hl))
          clear hbn
          go_wp2
          go_quiet (fail)
          go_wp2
          go_roundw
          case rel => exact ⟨t + 1, bb, by omega, by go_num, rfl, HN.out, by (repeat (first | exact In.refl _ | assumption | apply In.alloc | apply In.drewN | apply In.drew | (refine In.step ?_ (by assumption))))⟩
          case measure => simp [intOf]; omega
      · obtain rfl : t = n := by omega
        rcases bp_nat HBP.out with rfl | ⟨j, rfl, hj⟩
        · have hno := bp_end0 HBP.out
          have HR : Hid (RowB (ApartBreadsL t xs) w (.returned (.slice A1 m c1)) wr) := Lib.hid (by
            have h1 := HACC.out
            rw [apF_no hno, List.append_nil] at h1
            rw [HV.out, ← h1]
            exact rowB_of HM.out hown2 i3.below)
          clear hown2 hxr hno
          go_wp2
          go_ret
          exact HR.out
        · obtain ⟨_, e1, e2, e3⟩ := bp_end HBP.out
          have hin := HIN.out j hj
          have HA2 : Hid ((acc ++ [(j : Int)]) ++ apF xs t (f - 1) (hiI xs j) = apF xs t 400 0) := Lib.hid (by
            have h1 := HACC.out
            rw [apF_yes e2 f (by omega), e3, Int.toNat_natCast] at h1
            rw [← h1]; simp)
          obtain ⟨a, rfl, hq0, hq1, hq2⟩ := hxr.2 j hj
          have HQ : Hid (wr.cell? ⟨(a.add (j * 3)).block, (a.add (j * 3)).off + 1, none⟩ = some (.int .i64 (hiI xs j))) := Lib.hid hq1
          have hal := cell_lt hq1
          have hd0 : decide ((j : Int) < 0) = false := decide_eq_false (by omega)
          have HQ9 : Hid (∀ W, Below w.heap.size wr W → W.cell? ⟨(a.add (j * 3)).block, (a.add (j * 3)).off + 1, none⟩ = some (.int .i64 (hiI xs j))) := Lib.hid (fun W hb => by
            obtain ⟨a', ha', _, h1, _⟩ := (HX.out.in_ (In.wide i3 hb)).2 j hj
            injection ha' with ha'
            subst ha'
            exact h1)
          clear hxr hq0 hq1 hq2 e2 e3
          generalize hhy : hiI xs j = y at *
          have F9 : Hid (∀ u ∈ (#[Value.int .i64 ((j : Int))] : Array Value).toList, u.oneCell' = true) := Lib.hid (by intro u hu; simp at hu; subst hu; rfl)
          have f92 : m + 1 ≤ maxLen := by unfold maxLen; omega
          have f93 : (m + 1) * 8 ≤ 140737488355328 := by omega
          have hB9 : w.heap.size ≤ wr.heap.size := In.size (B := w.heap.size) (a := w) (by (repeat (first | exact In.refl _ | assumption | apply In.alloc | apply In.drewN | apply In.drew | (refine In.step ?_ (by assumption)))))
          go_wp2_with (first | (go_at_call 46; refine (sIn _ _ _ _).mono ?_; rintro e w' ⟨rfl, rfl⟩) | (go_at_call 56; refine (iIn _ _ _ _).mono ?_; rintro e w' ⟨rfl, rfl⟩) | (at_builtin; refine wpList_app wr rfl (.tmp 46) (.tmp 48) 22 rfl w.heap.size 3 i0 (.int .i64 0) 1 8 Try.underlying22 hi0 hz0 hz1 hz2 rfl Nat.one_pos (.slice A1 m c1) (m) (iv (acc)) rfl hown2 1 #[.int .i64 ((j : Int))] rfl rfl F9.out f92 f93 hB9 ?_; intro v9 w9 hown9 hbw9; have hc9 := HQ9.out w9 hbw9) | go_in | (go_end0; simp only []; go_at_K))
          have hi9 : In w.heap.size w w9 := In.wide i3 hbw9
          have hown3 : w9.ownsRow w.heap.size 3 1 v9 (acc ++ [(j : Int)]).length (iv (acc ++ [(j : Int)])) := by rw [iv_app, List.length_append, HM.out]; exact hown9
          have HO3 := Lib.hid hown3
          have HL3 : Hid ((acc ++ [(j : Int)]).length + (f - 1) ≤ 400) := Lib.hid (by rw [List.length_append, HM.out]; simp; omega)
          clear hown9 hbw9 hown3 hown2 f92 f93 hB9 HQ
          go_wp2
          go_roundw
          case rel => exact ⟨acc ++ [(j : Int)], f - 1, y, rfl, by omega, by omega, by omega, HL3.out, HA2.out, HO3.out, hi9⟩
          case measure => simp [intOf]; omega
end Go.Proofs.Ythadanmiomeehab
