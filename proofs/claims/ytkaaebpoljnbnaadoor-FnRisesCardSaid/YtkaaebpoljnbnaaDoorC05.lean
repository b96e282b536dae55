/- Chapter 5: SpeedAt over its table. -/
import Derived.Test.YtkaaebpoljnbnaaDoorIn
import Derived.Lib.LaidTab
import Derived.LaidSub
import Derived.Lib.SmallJoins
import Derived.Deep.Fields
import Derived.Test.YtkaaebpoljnbnaaDoorRows
namespace Go.Proofs.YtkaaebpoljnbnaaDoor
open Go.ChangeShapes Go.WideShapes Go.ChangeAt Go.RowKit
set_option linter.unusedVariables false
set_option linter.unusedSimpArgs false

def bandArr : Array Value := #[.int .i64 4, .int .i64 1, .int .i64 10, .int .i64 2, .int .i64 16, .int .i64 4, .int .i64 22, .int .i64 8, .int .i64 28, .int .i64 16, .int .i64 35, .int .i64 0]
theorem gBands : Tryd.prog.globalNamed "loop.example/g03310/impl.bands" = some 1 := by kernel_rfl
theorem gBandsType : (Tryd.prog.globals[1]?).map (·.type) = some 53 := by kernel_rfl
/-- the table lies as the program lays it -/
def Bands (w : World) : Prop := w.var? Tryd.prog "loop.example/g03310/impl.bands" = some bandArr
theorem Bands.below {w w' : World} (h : Bands w) (hb : Below w.heap.size w w') : Bands w' := Go.Joins.var_stays gBands h hb (Nat.le_refl _)
theorem Bands.in_ {w w' : World} (h : Bands w) (hi : In w.heap.size w w') : Bands w' := h.below hi.below
theorem Bands.cell {w : World} (h : Bands w) (i : Nat) : w.cell? ⟨1, i, none⟩ = bandArr[i]? := World.var?_cell gBands h i
def pairs {H : Type} (zs : List (Int × Int)) : DataW H := .agg (zs.map fun z => .agg [.lit (.int .i64 z.1), .lit (.int .i64 z.2)])
theorem cells_of_pairs {H : Type} {enc : TypeId × Value → H} {P : Program} {w : World} {base : Nat} {sp : Nat → Bool} {held : Bool} {fuel : Nat} {t e : TypeId} {n : Nat} {f0 f1 : Field} {cs : List Value} {zs : List (Int × Int)} {p : List MemPlace}
    (ht : P.underlying t = some (.array n e)) (he : P.underlying e = some (.struct #[f0, f1])) (hone : Go.Deep.oneCellFields P #[f0, f1] = true) (hce : P.cellsOf e = 2) (hct : P.cellsOf t = n * 2)
    (hf0 : P.underlying f0.type = some (.int .i64)) (hf1 : P.underlying f1.type = some (.int .i64))
    (h : DataW.trod enc P w base sp held fuel t cs = some (pairs zs, p)) : cs.length = n * 2 ∧ ∀ (i : Nat) (z : Int × Int), i < n → zs[i]? = some z → cs[i * 2]? = some (.int .i64 z.1) ∧ cs[i * 2 + 1]? = some (.int .i64 z.2) := by
  obtain ⟨xs, m, rfl, hx, hl, hxl, hi⟩ := DataW.trod_array ht h
  have hx1 : xs.map (·.1) = zs.map fun z => (.agg [.lit (.int .i64 z.1), .lit (.int .i64 z.2)] : DataW H) := by
    have := congrArg Prod.fst hx
    simp [pairs] at this
    exact this.symm
  refine ⟨hl.trans hct, fun i z hin hz => ?_⟩
  have h0 := hi i hin
  rw [hce, List.getElem?_eq_getElem (by omega)] at h0
  obtain ⟨ys, k, _, hy, hlen, hyl, hf⟩ := DataW.trod_struct he h0
  obtain ⟨o0, k0⟩ := Go.Deep.hone_of hone 0 f0 rfl
  obtain ⟨o1, k1⟩ := Go.Deep.hone_of hone 1 f1 rfl
  have hxi : (xs[i]'(by omega)).1 = (.agg [.lit (.int .i64 z.1), .lit (.int .i64 z.2)] : DataW H) := by
    have := congrArg (·[i]?) hx1
    simp only [List.getElem?_map, hz, Option.map_some] at this
    rw [List.getElem?_eq_getElem (by omega)] at this
    simpa using this
  rw [hy] at hxi
  simp only [DataW.agg.injEq] at hxi
  have hc : i * 2 + 1 < cs.length := by rw [hl, hct]; omega
  have e0 := hf 0 f0 rfl
  have e1 := hf 1 f1 rfl
  rw [o0, k0] at e0
  rw [o1, k1] at e1
  match ys, hyl with
  | [y0, y1], _ =>
    simp at hxi
    have hL : cs.drop (i * 2) = cs[i * 2]'(by omega) :: cs[i * 2 + 1] :: cs.drop (i * 2 + 1 + 1) := by
      rw [List.drop_eq_getElem_cons (by omega), List.drop_eq_getElem_cons (by omega)]
    have q0 : (((cs.drop (i * 2)).take 2).drop 0).take 1 = [cs[i * 2]'(by omega)] := by rw [hL]; rfl
    have q1 : (((cs.drop (i * 2)).take 2).drop 1).take 1 = [cs[i * 2 + 1]] := by rw [hL]; rfl
    rw [q0] at e0
    rw [q1] at e1
    obtain ⟨a, ha, ha2, _⟩ := DataW.trod_int hf0 (e0.trans rfl)
    obtain ⟨b, hb, hb2, _⟩ := DataW.trod_int hf1 (e1.trans rfl)
    rw [ha2, hb2] at hxi
    simp at hxi ha hb
    rw [List.getElem?_eq_getElem (by omega), List.getElem?_eq_getElem (by omega), ha, hb, hxi.1, hxi.2]
    exact ⟨rfl, rfl⟩
def bandZ : List (Int × Int) := [(4, 1), (10, 2), (16, 4), (22, 8), (28, 16), (35, 0)]
/-- the table, out of a row's condition -/
theorem bands_of {W : World} (h : laidMetH Tryd.prog [("loop.example/g03310/impl.bands", Rows.laid_loop_example_g03310_impl_bands)] W) : Bands W := by
  have h' : laidMet Tryd.prog [("loop.example/g03310/impl.bands", Rows.laid_loop_example_g03310_impl_bands)] W := h
  obtain ⟨ps, ⟨g', t', cs, fuel, p, q, hg', ht', hvar, hd, _, _⟩, _⟩ := h'
  obtain rfl := Option.some.inj (gBands.symm.trans hg')
  obtain rfl := Option.some.inj (gBandsType.symm.trans ht')
  unfold Bands
  rw [hvar]
  obtain ⟨hl, hz⟩ := cells_of_pairs (zs := bandZ) Tryd.underlying53 Tryd.underlying52 (by kernel_rfl) (by kernel_rfl) (by kernel_rfl) Tryd.underlying3 Tryd.underlying3 hd
  congr 1
  have z0 := hz 0 _ (by omega) rfl
  have z1 := hz 1 _ (by omega) rfl
  have z2 := hz 2 _ (by omega) rfl
  have z3 := hz 3 _ (by omega) rfl
  have z4 := hz 4 _ (by omega) rfl
  have z5 := hz 5 _ (by omega) rfl
  apply Array.ext'
  apply List.ext_getElem?
  intro i
  by_cases hi : i < 12
  · rcases (by omega : i = 0 ∨ i = 1 ∨ i = 2 ∨ i = 3 ∨ i = 4 ∨ i = 5 ∨ i = 6 ∨ i = 7 ∨ i = 8 ∨ i = 9 ∨ i = 10 ∨ i = 11) with rfl | rfl | rfl | rfl | rfl | rfl | rfl | rfl | rfl | rfl | rfl | rfl
    · exact z0.1
    · exact z0.2
    · exact z1.1
    · exact z1.2
    · exact z2.1
    · exact z2.2
    · exact z3.1
    · exact z3.2
    · exact z4.1
    · exact z4.2
    · exact z5.1
    · exact z5.2
  · rw [List.getElem?_eq_none (by omega), List.getElem?_eq_none (by simp [bandArr]; omega)]
def speedV (d : Int) : Int := if inB d (-30) 60 then (if d < 4 then 0 else if d < 10 then 1 else if d < 16 then 2 else if d < 22 then 4 else if d < 28 then 8 else if d < 35 then 16 else 0) else -1
def spTo (d : Int) : Nat → Int
  | 0 => 0
  | k + 1 => if (bandZ.getD k (0, 0)).1 ≤ d then (bandZ.getD k (0, 0)).2 else spTo d k
theorem speed_sp (d : Int) (h : inB d (-30) 60 = true) : speedV d = spTo d 6 := by
  rw [speedV, if_pos h]
  simp [spTo, bandZ]
  (repeat' split) <;> omega
set_option maxHeartbeats 2000000 in
theorem iSpeedAt (d : Int) (w : World) (hb : Bands w) : Calls Tryd.prog 17 #[.int .i64 d] w (Val (i64 (speedV d)) w) := by
  cases h : inB d (-30) 60
  · have HV : Hid (speedV d = -1) := Lib.hid (by simp [speedV, h])
    go_enter Tryd.func17, Tryd.ntmps17
    go_wp2_with (first | (go_at_call 24; refine (iIn _ _ _ _).mono ?_; rintro e w' ⟨rfl, rfl⟩) | go_in | (go_end0; simp only []; go_at_K))
    go_ret
    exact Val.mk' (v_int HV.out.symm) (by (repeat (first | exact In.refl _ | assumption | apply In.alloc | apply In.drewN | apply In.drew | (refine In.step ?_ (by assumption)))))
  have c0 : w.cell? ⟨1, 0, none⟩ = some (.int .i64 4) := hb.cell 0
  have c1 : w.cell? ⟨1, 1, none⟩ = some (.int .i64 1) := hb.cell 1
  have c2 : w.cell? ⟨1, 2, none⟩ = some (.int .i64 10) := hb.cell 2
  have c3 : w.cell? ⟨1, 3, none⟩ = some (.int .i64 2) := hb.cell 3
  have c4 : w.cell? ⟨1, 4, none⟩ = some (.int .i64 16) := hb.cell 4
  have c5 : w.cell? ⟨1, 5, none⟩ = some (.int .i64 4) := hb.cell 5
  have c6 : w.cell? ⟨1, 6, none⟩ = some (.int .i64 22) := hb.cell 6
  have c7 : w.cell? ⟨1, 7, none⟩ = some (.int .i64 8) := hb.cell 7
  have c8 : w.cell? ⟨1, 8, none⟩ = some (.int .i64 28) := hb.cell 8
  have c9 : w.cell? ⟨1, 9, none⟩ = some (.int .i64 16) := hb.cell 9
  have c10 : w.cell? ⟨1, 10, none⟩ = some (.int .i64 35) := hb.cell 10
  have c11 : w.cell? ⟨1, 11, none⟩ = some (.int .i64 0) := hb.cell 11
  obtain ⟨b1, b2⟩ := inB_tt h
  have HV : Hid (speedV d = spTo d 6) := Lib.hid (speed_sp d h)
  go_enter Tryd.func17, Tryd.ntmps17
  go_wp2_with (first | (go_at_call 24; refine (iIn _ _ _ _).mono ?_; rintro e w' ⟨rfl, rfl⟩) | go_in | (go_end0; simp only []; go_at_K))
  clear h c0 c1 c2 c3 c4 c5 c6 c7 c8 c9 c10 c11
  go_loopw [3, 10] (fun s i wr => ∃ k : Nat, k ≤ 6 ∧ i = .int .i64 k ∧ s = .int .i64 (spTo d k) ∧ In w.heap.size w wr) (fun _ i _ => 6 - (intOf i).toNat)
  case atStart => exact ⟨0, by omega, rfl, rfl, by (repeat (first | exact In.refl _ | assumption | apply In.alloc | apply In.drewN | apply In.drew | (refine In.step ?_ (by assumption))))⟩
  case round =>
    obtain ⟨k, hk, rfl, rfl, hi⟩ := hrel
    rcases (by omega : k = 0 ∨ k = 1 ∨ k = 2 ∨ k = 3 ∨ k = 4 ∨ k = 5 ∨ k = 6) with rfl | rfl | rfl | rfl | rfl | rfl | rfl
    · have hix : ∀ w, (Instr.index 53 (.agg #[.int .i64 4, .int .i64 1, .int .i64 10, .int .i64 2, .int .i64 16, .int .i64 4, .int .i64 22, .int .i64 8, .int .i64 28, .int .i64 16, .int .i64 35, .int .i64 0]) (.int .i64 0)).run Tryd.prog w = .ok (.agg #[.int .i64 4, .int .i64 1]) w := fun _ => by kernel_rfl
      by_cases ht : 4 ≤ d
      · have HS : Hid (spTo d 1 = 1) := Lib.hid (if_pos (show (bandZ.getD 0 (0, 0)).1 ≤ d from ht))
        go_wp2
        go_roundw
        case rel => exact ⟨1, by omega, by go_num, v_int HS.out.symm, by (repeat (first | exact In.refl _ | assumption | apply In.alloc | apply In.drewN | apply In.drew | (refine In.step ?_ (by assumption))))⟩
        case measure => simp [intOf]
      · have HS : Hid (spTo d 1 = spTo d 0) := Lib.hid (if_neg (show ¬ (bandZ.getD 0 (0, 0)).1 ≤ d from ht))
        go_wp2
        go_roundw
        case rel => exact ⟨1, by omega, by go_num, v_int HS.out.symm, by (repeat (first | exact In.refl _ | assumption | apply In.alloc | apply In.drewN | apply In.drew | (refine In.step ?_ (by assumption))))⟩
        case measure => simp [intOf]
    · have hix : ∀ w, (Instr.index 53 (.agg #[.int .i64 4, .int .i64 1, .int .i64 10, .int .i64 2, .int .i64 16, .int .i64 4, .int .i64 22, .int .i64 8, .int .i64 28, .int .i64 16, .int .i64 35, .int .i64 0]) (.int .i64 1)).run Tryd.prog w = .ok (.agg #[.int .i64 10, .int .i64 2]) w := fun _ => by kernel_rfl
      by_cases ht : 10 ≤ d
      · have HS : Hid (spTo d 2 = 2) := Lib.hid (if_pos (show (bandZ.getD 1 (0, 0)).1 ≤ d from ht))
        go_wp2
        go_roundw
        case rel => exact ⟨2, by omega, by go_num, v_int HS.out.symm, by (repeat (first | exact In.refl _ | assumption | apply In.alloc | apply In.drewN | apply In.drew | (refine In.step ?_ (by assumption))))⟩
        case measure => simp [intOf]
      · have HS : Hid (spTo d 2 = spTo d 1) := Lib.hid (if_neg (show ¬ (bandZ.getD 1 (0, 0)).1 ≤ d from ht))
        go_wp2
        go_roundw
        case rel => exact ⟨2, by omega, by go_num, v_int HS.out.symm, by (repeat (first | exact In.refl _ | assumption | apply In.alloc | apply In.drewN | apply In.drew | (refine In.step ?_ (by assumption))))⟩
        case measure => simp [intOf]
    · have hix : ∀ w, (Instr.index 53 (.agg #[.int .i64 4, .int .i64 1, .int .i64 10, .int .i64 2, .int .i64 16, .int .i64 4, .int .i64 22, .int .i64 8, .int .i64 28, .int .i64 16, .int .i64 35, .int .i64 0]) (.int .i64 2)).run Tryd.prog w = .ok (.agg #[.int .i64 16, .int .i64 4]) w := fun _ => by kernel_rfl
      by_cases ht : 16 ≤ d
      · have HS : Hid (spTo d 3 = 4) := Lib.hid (if_pos (show (bandZ.getD 2 (0, 0)).1 ≤ d from ht))
        go_wp2
        go_roundw
        case rel => exact ⟨3, by omega, by go_num, v_int HS.out.symm, by (repeat (first | exact In.refl _ | assumption | apply In.alloc | apply In.drewN | apply In.drew | (refine In.step ?_ (by assumption))))⟩
        case measure => simp [intOf]
      · have HS : Hid (spTo d 3 = spTo d 2) := Lib.hid (if_neg (show ¬ (bandZ.getD 2 (0, 0)).1 ≤ d from ht))
        go_wp2
        go_roundw
        case rel => exact ⟨3, by omega, by go_num, v_int HS.out.symm, by (repeat (first | exact In.refl _ | assumption | apply In.alloc | apply In.drewN | apply In.drew | (refine In.step ?_ (by assumption))))⟩
        case measure => simp [intOf]
    · have hix : ∀ w, (Instr.index 53 (.agg #[.int .i64 4, .int .i64 1, .int .i64 10, .int .i64 2, .int .i64 16, .int .i64 4, .int .i64 22, .int .i64 8, .int .i64 28, .int .i64 16, .int .i64 35, .int .i64 0]) (.int .i64 3)).run Tryd.prog w = .ok (.agg #[.int .i64 22, .int .i64 8]) w := fun _ => by kernel_rfl
      by_cases ht : 22 ≤ d
      · have HS : Hid (spTo d 4 = 8) := Lib.hid (if_pos (show (bandZ.getD 3 (0, 0)).1 ≤ d from ht))
        go_wp2
        go_roundw
        case rel => exact ⟨4, by omega, by go_num, v_int HS.out.symm, by (repeat (first | exact In.refl _ | assumption | apply In.alloc | apply In.drewN | apply In.drew | (refine In.step ?_ (by assumption))))⟩
        case measure => simp [intOf]
      · have HS : Hid (spTo d 4 = spTo d 3) := Lib.hid (if_neg (show ¬ (bandZ.getD 3 (0, 0)).1 ≤ d from ht))
        go_wp2
        go_roundw
        case rel => exact ⟨4, by omega, by go_num, v_int HS.out.symm, by (repeat (first | exact In.refl _ | assumption | apply In.alloc | apply In.drewN | apply In.drew | (refine In.step ?_ (by assumption))))⟩
        case measure => simp [intOf]
    · have hix : ∀ w, (Instr.index 53 (.agg #[.int .i64 4, .int .i64 1, .int .i64 10, .int .i64 2, .int .i64 16, .int .i64 4, .int .i64 22, .int .i64 8, .int .i64 28, .int .i64 16, .int .i64 35, .int .i64 0]) (.int .i64 4)).run Tryd.prog w = .ok (.agg #[.int .i64 28, .int .i64 16]) w := fun _ => by kernel_rfl
      by_cases ht : 28 ≤ d
      · have HS : Hid (spTo d 5 = 16) := Lib.hid (if_pos (show (bandZ.getD 4 (0, 0)).1 ≤ d from ht))
        go_wp2
        go_roundw
        case rel => exact ⟨5, by omega, by go_num, v_int HS.out.symm, by (repeat (first | exact In.refl _ | assumption | apply In.alloc | apply In.drewN | apply In.drew | (refine In.step ?_ (by assumption))))⟩
        case measure => simp [intOf]
      · have HS : Hid (spTo d 5 = spTo d 4) := Lib.hid (if_neg (show ¬ (bandZ.getD 4 (0, 0)).1 ≤ d from ht))
        go_wp2
        go_roundw
        case rel => exact ⟨5, by omega, by go_num, v_int HS.out.symm, by (repeat (first | exact In.refl _ | assumption | apply In.alloc | apply In.drewN | apply In.drew | (refine In.step ?_ (by assumption))))⟩
        case measure => simp [intOf]
    · have hix : ∀ w, (Instr.index 53 (.agg #[.int .i64 4, .int .i64 1, .int .i64 10, .int .i64 2, .int .i64 16, .int .i64 4, .int .i64 22, .int .i64 8, .int .i64 28, .int .i64 16, .int .i64 35, .int .i64 0]) (.int .i64 5)).run Tryd.prog w = .ok (.agg #[.int .i64 35, .int .i64 0]) w := fun _ => by kernel_rfl
      by_cases ht : 35 ≤ d
      · have HS : Hid (spTo d 6 = 0) := Lib.hid (if_pos (show (bandZ.getD 5 (0, 0)).1 ≤ d from ht))
        go_wp2
        go_roundw
        case rel => exact ⟨6, by omega, by go_num, v_int HS.out.symm, by (repeat (first | exact In.refl _ | assumption | apply In.alloc | apply In.drewN | apply In.drew | (refine In.step ?_ (by assumption))))⟩
        case measure => simp [intOf]
      · have HS : Hid (spTo d 6 = spTo d 5) := Lib.hid (if_neg (show ¬ (bandZ.getD 5 (0, 0)).1 ≤ d from ht))
        go_wp2
        go_roundw
        case rel => exact ⟨6, by omega, by go_num, v_int HS.out.symm, by (repeat (first | exact In.refl _ | assumption | apply In.alloc | apply In.drewN | apply In.drew | (refine In.step ?_ (by assumption))))⟩
        case measure => simp [intOf]
    · go_wp2
      go_ret
      exact Val.mk' (v_int HV.out.symm) (by (repeat (first | exact In.refl _ | assumption | apply In.alloc | apply In.drewN | apply In.drew | (refine In.step ?_ (by assumption)))))
end Go.Proofs.YtkaaebpoljnbnaaDoor
