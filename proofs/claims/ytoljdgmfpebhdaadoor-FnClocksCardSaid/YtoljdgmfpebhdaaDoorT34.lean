/- Chapter 34: TimeText, LengthText. -/
import Derived.Test.YtoljdgmfpebhdaaDoorFmt
import Derived.Test.YtoljdgmfpebhdaaDoorIn
import Derived.Lib.LaidTab
import Derived.LaidSub
import Derived.Lib.SmallJoins
namespace Go.Proofs.YtoljdgmfpebhdaaDoor
open Go.ChangeShapes Go.WideShapes Go.ChangeAt Go.RowKit
set_option linter.unusedVariables false
set_option linter.unusedSimpArgs false
set_option maxHeartbeats 2000000

theorem gTab : Tryd.prog.globalNamed "internal/strconv.uint64pow10" = some 1 := by kernel_rfl
theorem gTabType : (Tryd.prog.globals[1]?).map (·.type) = some 106 := by kernel_rfl
theorem cellsTab : Tryd.prog.cellsOf 106 = 20 := by kernel_rfl
theorem cellsU64 : Tryd.prog.cellsOf 99 = 1 := by kernel_rfl
/-- the table of powers, out of any list of variables that has it -/
theorem table {laid : List (String × DataW Unit)} {W : World} (h : laidMetH Tryd.prog laid W) (hf : laid.filter (fun x => x.1 == "internal/strconv.uint64pow10") = [("internal/strconv.uint64pow10", Lib.tabData .u64 Lib.pow10Tab)]) :
    Lib.TabIs Tryd.prog W "internal/strconv.uint64pow10" .u64 Lib.pow10Tab := by
  have h2 := h.filter (fun x => x.1 == "internal/strconv.uint64pow10")
  rw [hf] at h2
  exact Lib.tabIs_of_head (rest := []) gTab gTabType Tryd.underlying106 Tryd.underlying99 cellsU64 cellsTab h2
def Tab (w : World) : Prop := Lib.TabIs Tryd.prog w "internal/strconv.uint64pow10" .u64 Lib.pow10Tab
theorem Tab.in_ {w w' : World} (h : Tab w) (hi : In w.heap.size w w') : Tab w' := Go.Joins.tab_stays gTab h hi.below (Nat.le_refl _)
def itoaB (n : Int) : ByteArray := ⟨(Lib.itoa n).toArray⟩
theorem itoa_small (n : Int) (h0 : 0 ≤ n) (h1 : n ≤ 1000000) : (itoaB n).size ≤ 20 := by
  obtain ⟨m, rfl⟩ := Int.eq_ofNat_of_zero_le h0
  show (Lib.itoa (m : Int)).toArray.size ≤ 20
  rw [itoa_pos]
  have := decDigits_le m (by omega)
  simpa using this
abbrev b1 (b : UInt8) : ByteArray := ⟨#[b]⟩
/-- hours and minutes as text -/
def minB (m : Int) : ByteArray := if ((itoaB m).size : Int) = 1 then ⟨#[48]⟩ ++ itoaB m else itoaB m
def timeB (n : Int) : ByteArray := if inB n 0 1439 then itoaB (n / 60) ++ ⟨#[58]⟩ ++ minB (n % 60) else ⟨#[]⟩
def lenB (n : Int) : ByteArray := if inB n 0 100000 then (if n < 60 then itoaB (n % 60) ++ ⟨#[109]⟩ else if n % 60 = 0 then itoaB (n / 60) ++ ⟨#[104]⟩ else itoaB (n / 60) ++ ⟨#[104]⟩ ++ ⟨#[32]⟩ ++ (itoaB (n % 60) ++ ⟨#[109]⟩)) else ⟨#[]⟩
theorem sF (n : Int) (h0 : 0 ≤ n) (h1 : n ≤ 1000000) (w : World) : Calls Tryd.prog 52 #[.int .i64 n] w (StrB (itoaB n) w) := specFmt n (by omega) (by omega) w
theorem iF (n : Int) (h0 : 0 ≤ n) (h1 : n ≤ 1000000) (w : World) (ht : Tab w) : Calls Tryd.prog 36 #[.int .i64 n] w (StrB (itoaB n) w) := implFmt n (by omega) (by omega) w ht
theorem sm34 (n : Int) (w : World) : Calls Tryd.prog 53 #[.int .i64 n] w (Same (.bool (inB n 0 1439)) w) := by
  go_enter Tryd.func53, Tryd.ntmps53
  go_wp2_with (first | (go_at_call 30; refine (sIn _ _ _ _).mono ?_; rintro e w' ⟨rfl, rfl⟩) | (go_at_call 37; refine (iIn _ _ _ _).mono ?_; rintro e w' ⟨rfl, rfl⟩))
  go_ret
  exact ⟨rfl, rfl⟩
theorem im34 (n : Int) (w : World) : Calls Tryd.prog 35 #[.int .i64 n] w (Same (.bool (inB n 0 1439)) w) := by
  go_enter Tryd.func35, Tryd.ntmps35
  go_wp2_with (first | (go_at_call 30; refine (sIn _ _ _ _).mono ?_; rintro e w' ⟨rfl, rfl⟩) | (go_at_call 37; refine (iIn _ _ _ _).mono ?_; rintro e w' ⟨rfl, rfl⟩))
  go_ret
  exact ⟨rfl, rfl⟩
theorem add_ok (a b : ByteArray) (h : a.size + b.size ≤ 1000) (W : World) : (Op.stringOp .add a b).run Tryd.prog W = .ok (.string (a ++ b)) W := run_string_add_sum W a b (by omega)
theorem strB_of {s t : ByteArray} {w w' : World} (h : t = s) (hi : In w.heap.size w w') : StrB s w (.returned (.string t)) w' := ⟨by rw [h], hi.below⟩
set_option maxHeartbeats 4000000 in
theorem sTimeText (n : Int) (w : World) : Calls Tryd.prog 32 #[.int .i64 n] w (StrB (timeB n) w) := by
  cases h : inB n 0 1439
  · have HV : Hid (timeB n = ⟨#[]⟩) := Lib.hid (by simp [timeB, h])
    go_enter Tryd.func32, Tryd.ntmps32
    go_wp2_with (first | (go_at_call 30; refine (sIn _ _ _ _).mono ?_; rintro e w' ⟨rfl, rfl⟩) | (go_at_call 37; refine (iIn _ _ _ _).mono ?_; rintro e w' ⟨rfl, rfl⟩) | (go_at_call 53; refine (sm34 _ _).mono ?_; rintro e w' ⟨rfl, rfl⟩))
    go_ret
    exact strB_of HV.out.symm (by (repeat (first | exact In.refl _ | assumption | apply In.alloc | apply In.drewN | apply In.drew | (refine In.step ?_ (by assumption)))))
  have HV : Hid (timeB n = itoaB (n / 60) ++ ⟨#[58]⟩ ++ minB (n % 60)) := Lib.hid (by simp [timeB, h])
  obtain ⟨n0, n1⟩ := inB_tt h
  have C1 : Hid (∀ W, In w.heap.size w W → Calls Tryd.prog 52 #[.int .i64 (n % 60)] W (StrB (itoaB (n % 60)) W)) := Lib.hid (fun W h => sF (n % 60) (by omega) (by omega) W)
  have C2 : Hid (∀ W, In w.heap.size w W → Calls Tryd.prog 52 #[.int .i64 (n / 60)] W (StrB (itoaB (n / 60)) W)) := Lib.hid (fun W h => sF (n / 60) (by omega) (by omega) W)
  have z1 := itoa_small (n % 60) (by omega) (by omega)
  have z2 := itoa_small (n / 60) (by omega) (by omega)
  have HM : Hid (minB (n % 60) = if ((itoaB (n % 60)).size : Int) = 1 then ⟨#[48]⟩ ++ itoaB (n % 60) else itoaB (n % 60)) := Lib.hid rfl
  generalize itoaB (n % 60) = r at *
  generalize itoaB (n / 60) = p at *
  generalize minB (n % 60) = mb at *
  by_cases hs : (r.size : Int) = 1
  · have HME := Lib.hid (HM.out.trans (if_pos hs))
    have a1 := fun W => add_ok (b1 48) r (by show 1 + r.size ≤ _; omega) W
    have a2 := fun W => add_ok p (b1 58) (by show p.size + 1 ≤ _; omega) W
    have a3 := fun W => add_ok (p ++ b1 58) (b1 48 ++ r) (by rw [ByteArray.size_append, ByteArray.size_append]; show p.size + 1 + (1 + r.size) ≤ _; omega) W
    have hs' : ((r.size : Int) == 1) = true := by simpa using hs
    go_enter Tryd.func32, Tryd.ntmps32
    go_wp2_with (first | (go_at_call 30; refine (sIn _ _ _ _).mono ?_; rintro e w' ⟨rfl, rfl⟩) | (go_at_call 37; refine (iIn _ _ _ _).mono ?_; rintro e w' ⟨rfl, rfl⟩) | (go_at_call 53; refine (sm34 _ _).mono ?_; rintro e w' ⟨rfl, rfl⟩))
    with_reducible refine (C1.out _ (by (repeat (first | exact In.refl _ | assumption | apply In.alloc | apply In.drewN | apply In.drew | (refine In.step ?_ (by assumption)))))).mono ?_
    rintro _ w1 ⟨rfl, hb1⟩
    have i1 : In w.heap.size w w1 := In.step (by (repeat (first | exact In.refl _ | assumption | apply In.alloc | apply In.drewN | apply In.drew | (refine In.step ?_ (by assumption))))) hb1
    go_wp2_with fail
    with_reducible refine (C2.out _ (by (repeat (first | exact In.refl _ | assumption | apply In.alloc | apply In.drewN | apply In.drew | (refine In.step ?_ (by assumption)))))).mono ?_
    rintro _ w2 ⟨rfl, hb2⟩
    have i2 : In w.heap.size w w2 := In.step (by (repeat (first | exact In.refl _ | assumption | apply In.alloc | apply In.drewN | apply In.drew | (refine In.step ?_ (by assumption))))) hb2
    go_wp2
    go_ret
    exact strB_of (by rw [HV.out, HME.out]) (by (repeat (first | exact In.refl _ | assumption | apply In.alloc | apply In.drewN | apply In.drew | (refine In.step ?_ (by assumption)))))
  · have HME := Lib.hid (HM.out.trans (if_neg hs))
    have a2 := fun W => add_ok p (b1 58) (by show p.size + 1 ≤ _; omega) W
    have a3 := fun W => add_ok (p ++ b1 58) r (by rw [ByteArray.size_append]; show p.size + 1 + r.size ≤ _; omega) W
    have hs' : ((r.size : Int) == 1) = false := by simpa using hs
    go_enter Tryd.func32, Tryd.ntmps32
    go_wp2_with (first | (go_at_call 30; refine (sIn _ _ _ _).mono ?_; rintro e w' ⟨rfl, rfl⟩) | (go_at_call 37; refine (iIn _ _ _ _).mono ?_; rintro e w' ⟨rfl, rfl⟩) | (go_at_call 53; refine (sm34 _ _).mono ?_; rintro e w' ⟨rfl, rfl⟩))
    with_reducible refine (C1.out _ (by (repeat (first | exact In.refl _ | assumption | apply In.alloc | apply In.drewN | apply In.drew | (refine In.step ?_ (by assumption)))))).mono ?_
    rintro _ w1 ⟨rfl, hb1⟩
    have i1 : In w.heap.size w w1 := In.step (by (repeat (first | exact In.refl _ | assumption | apply In.alloc | apply In.drewN | apply In.drew | (refine In.step ?_ (by assumption))))) hb1
    go_wp2_with fail
    with_reducible refine (C2.out _ (by (repeat (first | exact In.refl _ | assumption | apply In.alloc | apply In.drewN | apply In.drew | (refine In.step ?_ (by assumption)))))).mono ?_
    rintro _ w2 ⟨rfl, hb2⟩
    have i2 : In w.heap.size w w2 := In.step (by (repeat (first | exact In.refl _ | assumption | apply In.alloc | apply In.drewN | apply In.drew | (refine In.step ?_ (by assumption))))) hb2
    go_wp2
    go_ret
    exact strB_of (by rw [HV.out, HME.out]) (by (repeat (first | exact In.refl _ | assumption | apply In.alloc | apply In.drewN | apply In.drew | (refine In.step ?_ (by assumption)))))
set_option maxHeartbeats 4000000 in
theorem sLengthText (n : Int) (w : World) : Calls Tryd.prog 34 #[.int .i64 n] w (StrB (lenB n) w) := by
  cases h : inB n 0 100000
  · have HV : Hid (lenB n = ⟨#[]⟩) := Lib.hid (by simp [lenB, h])
    go_enter Tryd.func34, Tryd.ntmps34
    go_wp2_with (first | (go_at_call 30; refine (sIn _ _ _ _).mono ?_; rintro e w' ⟨rfl, rfl⟩) | (go_at_call 37; refine (iIn _ _ _ _).mono ?_; rintro e w' ⟨rfl, rfl⟩))
    go_ret
    exact strB_of HV.out.symm (by (repeat (first | exact In.refl _ | assumption | apply In.alloc | apply In.drewN | apply In.drew | (refine In.step ?_ (by assumption)))))
  have HV : Hid (lenB n = (if n < 60 then itoaB (n % 60) ++ ⟨#[109]⟩ else if n % 60 = 0 then itoaB (n / 60) ++ ⟨#[104]⟩ else itoaB (n / 60) ++ ⟨#[104]⟩ ++ ⟨#[32]⟩ ++ (itoaB (n % 60) ++ ⟨#[109]⟩))) := Lib.hid (by simp [lenB, h])
  obtain ⟨n0, n1⟩ := inB_tt h
  have C1 : Hid (∀ W, In w.heap.size w W → Calls Tryd.prog 52 #[.int .i64 (n % 60)] W (StrB (itoaB (n % 60)) W)) := Lib.hid (fun W h => sF (n % 60) (by omega) (by omega) W)
  have C2 : Hid (∀ W, In w.heap.size w W → Calls Tryd.prog 52 #[.int .i64 (n / 60)] W (StrB (itoaB (n / 60)) W)) := Lib.hid (fun W h => sF (n / 60) (by omega) (by omega) W)
  have z1 := itoa_small (n % 60) (by omega) (by omega)
  have z2 := itoa_small (n / 60) (by omega) (by omega)
  generalize itoaB (n % 60) = r at *
  generalize itoaB (n / 60) = p at *
  have a1 := fun W => add_ok p (b1 104) (by show p.size + 1 ≤ _; omega) W
  have a2 := fun W => add_ok r (b1 109) (by show r.size + 1 ≤ _; omega) W
  have a3 := fun W => add_ok (p ++ b1 104) (b1 32) (by rw [ByteArray.size_append]; show p.size + 1 + 1 ≤ _; omega) W
  have a4 := fun W => add_ok (p ++ b1 104 ++ b1 32) (r ++ b1 109) (by rw [ByteArray.size_append, ByteArray.size_append, ByteArray.size_append]; show p.size + 1 + 1 + (r.size + 1) ≤ _; omega) W
  by_cases h1 : n < 60
  · have HE : Hid (lenB n = r ++ ⟨#[109]⟩) := Lib.hid (by rw [HV.out, if_pos h1])
    go_enter Tryd.func34, Tryd.ntmps34
    go_wp2_with (first | (go_at_call 30; refine (sIn _ _ _ _).mono ?_; rintro e w' ⟨rfl, rfl⟩) | (go_at_call 37; refine (iIn _ _ _ _).mono ?_; rintro e w' ⟨rfl, rfl⟩))
    with_reducible refine (C2.out _ (by (repeat (first | exact In.refl _ | assumption | apply In.alloc | apply In.drewN | apply In.drew | (refine In.step ?_ (by assumption)))))).mono ?_
    rintro _ w1 ⟨rfl, hb1⟩
    have i1 : In w.heap.size w w1 := In.step (by (repeat (first | exact In.refl _ | assumption | apply In.alloc | apply In.drewN | apply In.drew | (refine In.step ?_ (by assumption))))) hb1
    go_wp2_with fail
    with_reducible refine (C1.out _ (by (repeat (first | exact In.refl _ | assumption | apply In.alloc | apply In.drewN | apply In.drew | (refine In.step ?_ (by assumption)))))).mono ?_
    rintro _ w2 ⟨rfl, hb2⟩
    have i2 : In w.heap.size w w2 := In.step (by (repeat (first | exact In.refl _ | assumption | apply In.alloc | apply In.drewN | apply In.drew | (refine In.step ?_ (by assumption))))) hb2
    go_wp2
    go_ret
    exact strB_of HE.out.symm (by (repeat (first | exact In.refl _ | assumption | apply In.alloc | apply In.drewN | apply In.drew | (refine In.step ?_ (by assumption)))))
  by_cases h2 : n % 60 = 0
  · have HE : Hid (lenB n = p ++ ⟨#[104]⟩) := Lib.hid (by rw [HV.out, if_neg h1, if_pos h2])
    have C0 : Hid (∀ W, In w.heap.size w W → Calls Tryd.prog 52 #[.int .i64 0] W (StrB r W)) := Lib.hid (fun W h => by have h9 := C1.out W h; rw [h2] at h9; exact h9)
    go_enter Tryd.func34, Tryd.ntmps34
    go_wp2_with (first | (go_at_call 30; refine (sIn _ _ _ _).mono ?_; rintro e w' ⟨rfl, rfl⟩) | (go_at_call 37; refine (iIn _ _ _ _).mono ?_; rintro e w' ⟨rfl, rfl⟩))
    with_reducible refine (C2.out _ (by (repeat (first | exact In.refl _ | assumption | apply In.alloc | apply In.drewN | apply In.drew | (refine In.step ?_ (by assumption)))))).mono ?_
    rintro _ w1 ⟨rfl, hb1⟩
    have i1 : In w.heap.size w w1 := In.step (by (repeat (first | exact In.refl _ | assumption | apply In.alloc | apply In.drewN | apply In.drew | (refine In.step ?_ (by assumption))))) hb1
    go_wp2_with fail
    with_reducible refine (C0.out _ (by (repeat (first | exact In.refl _ | assumption | apply In.alloc | apply In.drewN | apply In.drew | (refine In.step ?_ (by assumption)))))).mono ?_
    rintro _ w2 ⟨rfl, hb2⟩
    have i2 : In w.heap.size w w2 := In.step (by (repeat (first | exact In.refl _ | assumption | apply In.alloc | apply In.drewN | apply In.drew | (refine In.step ?_ (by assumption))))) hb2
    go_wp2
    go_ret
    exact strB_of HE.out.symm (by (repeat (first | exact In.refl _ | assumption | apply In.alloc | apply In.drewN | apply In.drew | (refine In.step ?_ (by assumption)))))
  · have HE : Hid (lenB n = p ++ ⟨#[104]⟩ ++ ⟨#[32]⟩ ++ (r ++ ⟨#[109]⟩)) := Lib.hid (by rw [HV.out, if_neg h1, if_neg h2])
    go_enter Tryd.func34, Tryd.ntmps34
    go_wp2_with (first | (go_at_call 30; refine (sIn _ _ _ _).mono ?_; rintro e w' ⟨rfl, rfl⟩) | (go_at_call 37; refine (iIn _ _ _ _).mono ?_; rintro e w' ⟨rfl, rfl⟩))
    with_reducible refine (C2.out _ (by (repeat (first | exact In.refl _ | assumption | apply In.alloc | apply In.drewN | apply In.drew | (refine In.step ?_ (by assumption)))))).mono ?_
    rintro _ w1 ⟨rfl, hb1⟩
    have i1 : In w.heap.size w w1 := In.step (by (repeat (first | exact In.refl _ | assumption | apply In.alloc | apply In.drewN | apply In.drew | (refine In.step ?_ (by assumption))))) hb1
    go_wp2_with fail
    with_reducible refine (C1.out _ (by (repeat (first | exact In.refl _ | assumption | apply In.alloc | apply In.drewN | apply In.drew | (refine In.step ?_ (by assumption)))))).mono ?_
    rintro _ w2 ⟨rfl, hb2⟩
    have i2 : In w.heap.size w w2 := In.step (by (repeat (first | exact In.refl _ | assumption | apply In.alloc | apply In.drewN | apply In.drew | (refine In.step ?_ (by assumption))))) hb2
    go_wp2
    go_ret
    exact strB_of HE.out.symm (by (repeat (first | exact In.refl _ | assumption | apply In.alloc | apply In.drewN | apply In.drew | (refine In.step ?_ (by assumption)))))
set_option maxHeartbeats 4000000 in
theorem iTimeText (n : Int) (w : World) (hT : Tab w) : Calls Tryd.prog 15 #[.int .i64 n] w (StrB (timeB n) w) := by
  have HT := Lib.hid hT
  clear hT
  cases h : inB n 0 1439
  · have HV : Hid (timeB n = ⟨#[]⟩) := Lib.hid (by simp [timeB, h])
    go_enter Tryd.func15, Tryd.ntmps15
    go_wp2_with (first | (go_at_call 30; refine (sIn _ _ _ _).mono ?_; rintro e w' ⟨rfl, rfl⟩) | (go_at_call 37; refine (iIn _ _ _ _).mono ?_; rintro e w' ⟨rfl, rfl⟩) | (go_at_call 35; refine (im34 _ _).mono ?_; rintro e w' ⟨rfl, rfl⟩))
    go_ret
    exact strB_of HV.out.symm (by (repeat (first | exact In.refl _ | assumption | apply In.alloc | apply In.drewN | apply In.drew | (refine In.step ?_ (by assumption)))))
  have HV : Hid (timeB n = itoaB (n / 60) ++ ⟨#[58]⟩ ++ minB (n % 60)) := Lib.hid (by simp [timeB, h])
  obtain ⟨n0, n1⟩ := inB_tt h
  have C1 : Hid (∀ W, In w.heap.size w W → Calls Tryd.prog 36 #[.int .i64 (n % 60)] W (StrB (itoaB (n % 60)) W)) := Lib.hid (fun W h => iF (n % 60) (by omega) (by omega) W (HT.out.in_ h))
  have C2 : Hid (∀ W, In w.heap.size w W → Calls Tryd.prog 36 #[.int .i64 (n / 60)] W (StrB (itoaB (n / 60)) W)) := Lib.hid (fun W h => iF (n / 60) (by omega) (by omega) W (HT.out.in_ h))
  have z1 := itoa_small (n % 60) (by omega) (by omega)
  have z2 := itoa_small (n / 60) (by omega) (by omega)
  have HM : Hid (minB (n % 60) = if ((itoaB (n % 60)).size : Int) = 1 then ⟨#[48]⟩ ++ itoaB (n % 60) else itoaB (n % 60)) := Lib.hid rfl
  generalize itoaB (n % 60) = r at *
  generalize itoaB (n / 60) = p at *
  generalize minB (n % 60) = mb at *
  by_cases hs : (r.size : Int) = 1
  · have HME := Lib.hid (HM.out.trans (if_pos hs))
    have a1 := fun W => add_ok (b1 48) r (by show 1 + r.size ≤ _; omega) W
    have a2 := fun W => add_ok p (b1 58) (by show p.size + 1 ≤ _; omega) W
    have a3 := fun W => add_ok (p ++ b1 58) (b1 48 ++ r) (by rw [ByteArray.size_append, ByteArray.size_append]; show p.size + 1 + (1 + r.size) ≤ _; omega) W
    have hs' : ((r.size : Int) == 1) = true := by simpa using hs
    go_enter Tryd.func15, Tryd.ntmps15
    go_wp2_with (first | (go_at_call 30; refine (sIn _ _ _ _).mono ?_; rintro e w' ⟨rfl, rfl⟩) | (go_at_call 37; refine (iIn _ _ _ _).mono ?_; rintro e w' ⟨rfl, rfl⟩) | (go_at_call 35; refine (im34 _ _).mono ?_; rintro e w' ⟨rfl, rfl⟩))
    with_reducible refine (C1.out _ (by (repeat (first | exact In.refl _ | assumption | apply In.alloc | apply In.drewN | apply In.drew | (refine In.step ?_ (by assumption)))))).mono ?_
    rintro _ w1 ⟨rfl, hb1⟩
    have i1 : In w.heap.size w w1 := In.step (by (repeat (first | exact In.refl _ | assumption | apply In.alloc | apply In.drewN | apply In.drew | (refine In.step ?_ (by assumption))))) hb1
    go_wp2_with fail
    with_reducible refine (C2.out _ (by (repeat (first | exact In.refl _ | assumption | apply In.alloc | apply In.drewN | apply In.drew | (refine In.step ?_ (by assumption)))))).mono ?_
    rintro _ w2 ⟨rfl, hb2⟩
    have i2 : In w.heap.size w w2 := In.step (by (repeat (first | exact In.refl _ | assumption | apply In.alloc | apply In.drewN | apply In.drew | (refine In.step ?_ (by assumption))))) hb2
    go_wp2
    go_ret
    exact strB_of (by rw [HV.out, HME.out]) (by (repeat (first | exact In.refl _ | assumption | apply In.alloc | apply In.drewN | apply In.drew | (refine In.step ?_ (by assumption)))))
  · have HME := Lib.hid (HM.out.trans (if_neg hs))
    have a2 := fun W => add_ok p (b1 58) (by show p.size + 1 ≤ _; omega) W
    have a3 := fun W => add_ok (p ++ b1 58) r (by rw [ByteArray.size_append]; show p.size + 1 + r.size ≤ _; omega) W
    have hs' : ((r.size : Int) == 1) = false := by simpa using hs
    go_enter Tryd.func15, Tryd.ntmps15
    go_wp2_with (first | (go_at_call 30; refine (sIn _ _ _ _).mono ?_; rintro e w' ⟨rfl, rfl⟩) | (go_at_call 37; refine (iIn _ _ _ _).mono ?_; rintro e w' ⟨rfl, rfl⟩) | (go_at_call 35; refine (im34 _ _).mono ?_; rintro e w' ⟨rfl, rfl⟩))
    with_reducible refine (C1.out _ (by (repeat (first | exact In.refl _ | assumption | apply In.alloc | apply In.drewN | apply In.drew | (refine In.step ?_ (by assumption)))))).mono ?_
    rintro _ w1 ⟨rfl, hb1⟩
    have i1 : In w.heap.size w w1 := In.step (by (repeat (first | exact In.refl _ | assumption | apply In.alloc | apply In.drewN | apply In.drew | (refine In.step ?_ (by assumption))))) hb1
    go_wp2_with fail
    with_reducible refine (C2.out _ (by (repeat (first | exact In.refl _ | assumption | apply In.alloc | apply In.drewN | apply In.drew | (refine In.step ?_ (by assumption)))))).mono ?_
    rintro _ w2 ⟨rfl, hb2⟩
    have i2 : In w.heap.size w w2 := In.step (by (repeat (first | exact In.refl _ | assumption | apply In.alloc | apply In.drewN | apply In.drew | (refine In.step ?_ (by assumption))))) hb2
    go_wp2
    go_ret
    exact strB_of (by rw [HV.out, HME.out]) (by (repeat (first | exact In.refl _ | assumption | apply In.alloc | apply In.drewN | apply In.drew | (refine In.step ?_ (by assumption)))))
set_option maxHeartbeats 4000000 in
theorem iLengthText (n : Int) (w : World) (hT : Tab w) : Calls Tryd.prog 16 #[.int .i64 n] w (StrB (lenB n) w) := by
  have HT := Lib.hid hT
  clear hT
  cases h : inB n 0 100000
  · have HV : Hid (lenB n = ⟨#[]⟩) := Lib.hid (by simp [lenB, h])
    go_enter Tryd.func16, Tryd.ntmps16
    go_wp2_with (first | (go_at_call 30; refine (sIn _ _ _ _).mono ?_; rintro e w' ⟨rfl, rfl⟩) | (go_at_call 37; refine (iIn _ _ _ _).mono ?_; rintro e w' ⟨rfl, rfl⟩))
    go_ret
    exact strB_of HV.out.symm (by (repeat (first | exact In.refl _ | assumption | apply In.alloc | apply In.drewN | apply In.drew | (refine In.step ?_ (by assumption)))))
  have HV : Hid (lenB n = (if n < 60 then itoaB (n % 60) ++ ⟨#[109]⟩ else if n % 60 = 0 then itoaB (n / 60) ++ ⟨#[104]⟩ else itoaB (n / 60) ++ ⟨#[104]⟩ ++ ⟨#[32]⟩ ++ (itoaB (n % 60) ++ ⟨#[109]⟩))) := Lib.hid (by simp [lenB, h])
  obtain ⟨n0, n1⟩ := inB_tt h
  have C1 : Hid (∀ W, In w.heap.size w W → Calls Tryd.prog 36 #[.int .i64 (n % 60)] W (StrB (itoaB (n % 60)) W)) := Lib.hid (fun W h => iF (n % 60) (by omega) (by omega) W (HT.out.in_ h))
  have C2 : Hid (∀ W, In w.heap.size w W → Calls Tryd.prog 36 #[.int .i64 (n / 60)] W (StrB (itoaB (n / 60)) W)) := Lib.hid (fun W h => iF (n / 60) (by omega) (by omega) W (HT.out.in_ h))
  have z1 := itoa_small (n % 60) (by omega) (by omega)
  have z2 := itoa_small (n / 60) (by omega) (by omega)
  generalize itoaB (n % 60) = r at *
  generalize itoaB (n / 60) = p at *
  have a1 := fun W => add_ok p (b1 104) (by show p.size + 1 ≤ _; omega) W
  have a2 := fun W => add_ok r (b1 109) (by show r.size + 1 ≤ _; omega) W
  have a3 := fun W => add_ok (p ++ b1 104) (b1 32) (by rw [ByteArray.size_append]; show p.size + 1 + 1 ≤ _; omega) W
  have a4 := fun W => add_ok (p ++ b1 104 ++ b1 32) (r ++ b1 109) (by rw [ByteArray.size_append, ByteArray.size_append, ByteArray.size_append]; show p.size + 1 + 1 + (r.size + 1) ≤ _; omega) W
  by_cases h1 : n < 60
  · have HE : Hid (lenB n = r ++ ⟨#[109]⟩) := Lib.hid (by rw [HV.out, if_pos h1])
    go_enter Tryd.func16, Tryd.ntmps16
    go_wp2_with (first | (go_at_call 30; refine (sIn _ _ _ _).mono ?_; rintro e w' ⟨rfl, rfl⟩) | (go_at_call 37; refine (iIn _ _ _ _).mono ?_; rintro e w' ⟨rfl, rfl⟩))
    with_reducible refine (C2.out _ (by (repeat (first | exact In.refl _ | assumption | apply In.alloc | apply In.drewN | apply In.drew | (refine In.step ?_ (by assumption)))))).mono ?_
    rintro _ w1 ⟨rfl, hb1⟩
    have i1 : In w.heap.size w w1 := In.step (by (repeat (first | exact In.refl _ | assumption | apply In.alloc | apply In.drewN | apply In.drew | (refine In.step ?_ (by assumption))))) hb1
    go_wp2_with fail
    with_reducible refine (C1.out _ (by (repeat (first | exact In.refl _ | assumption | apply In.alloc | apply In.drewN | apply In.drew | (refine In.step ?_ (by assumption)))))).mono ?_
    rintro _ w2 ⟨rfl, hb2⟩
    have i2 : In w.heap.size w w2 := In.step (by (repeat (first | exact In.refl _ | assumption | apply In.alloc | apply In.drewN | apply In.drew | (refine In.step ?_ (by assumption))))) hb2
    go_wp2
    go_ret
    exact strB_of HE.out.symm (by (repeat (first | exact In.refl _ | assumption | apply In.alloc | apply In.drewN | apply In.drew | (refine In.step ?_ (by assumption)))))
  by_cases h2 : n % 60 = 0
  · have HE : Hid (lenB n = p ++ ⟨#[104]⟩) := Lib.hid (by rw [HV.out, if_neg h1, if_pos h2])
    have C0 : Hid (∀ W, In w.heap.size w W → Calls Tryd.prog 36 #[.int .i64 0] W (StrB r W)) := Lib.hid (fun W h => by have h9 := C1.out W h; rw [h2] at h9; exact h9)
    go_enter Tryd.func16, Tryd.ntmps16
    go_wp2_with (first | (go_at_call 30; refine (sIn _ _ _ _).mono ?_; rintro e w' ⟨rfl, rfl⟩) | (go_at_call 37; refine (iIn _ _ _ _).mono ?_; rintro e w' ⟨rfl, rfl⟩))
    with_reducible refine (C2.out _ (by (repeat (first | exact In.refl _ | assumption | apply In.alloc | apply In.drewN | apply In.drew | (refine In.step ?_ (by assumption)))))).mono ?_
    rintro _ w1 ⟨rfl, hb1⟩
    have i1 : In w.heap.size w w1 := In.step (by (repeat (first | exact In.refl _ | assumption | apply In.alloc | apply In.drewN | apply In.drew | (refine In.step ?_ (by assumption))))) hb1
    go_wp2_with fail
    with_reducible refine (C0.out _ (by (repeat (first | exact In.refl _ | assumption | apply In.alloc | apply In.drewN | apply In.drew | (refine In.step ?_ (by assumption)))))).mono ?_
    rintro _ w2 ⟨rfl, hb2⟩
    have i2 : In w.heap.size w w2 := In.step (by (repeat (first | exact In.refl _ | assumption | apply In.alloc | apply In.drewN | apply In.drew | (refine In.step ?_ (by assumption))))) hb2
    go_wp2
    go_ret
    exact strB_of HE.out.symm (by (repeat (first | exact In.refl _ | assumption | apply In.alloc | apply In.drewN | apply In.drew | (refine In.step ?_ (by assumption)))))
  · have HE : Hid (lenB n = p ++ ⟨#[104]⟩ ++ ⟨#[32]⟩ ++ (r ++ ⟨#[109]⟩)) := Lib.hid (by rw [HV.out, if_neg h1, if_neg h2])
    go_enter Tryd.func16, Tryd.ntmps16
    go_wp2_with (first | (go_at_call 30; refine (sIn _ _ _ _).mono ?_; rintro e w' ⟨rfl, rfl⟩) | (go_at_call 37; refine (iIn _ _ _ _).mono ?_; rintro e w' ⟨rfl, rfl⟩))
    with_reducible refine (C2.out _ (by (repeat (first | exact In.refl _ | assumption | apply In.alloc | apply In.drewN | apply In.drew | (refine In.step ?_ (by assumption)))))).mono ?_
    rintro _ w1 ⟨rfl, hb1⟩
    have i1 : In w.heap.size w w1 := In.step (by (repeat (first | exact In.refl _ | assumption | apply In.alloc | apply In.drewN | apply In.drew | (refine In.step ?_ (by assumption))))) hb1
    go_wp2_with fail
    with_reducible refine (C1.out _ (by (repeat (first | exact In.refl _ | assumption | apply In.alloc | apply In.drewN | apply In.drew | (refine In.step ?_ (by assumption)))))).mono ?_
    rintro _ w2 ⟨rfl, hb2⟩
    have i2 : In w.heap.size w w2 := In.step (by (repeat (first | exact In.refl _ | assumption | apply In.alloc | apply In.drewN | apply In.drew | (refine In.step ?_ (by assumption))))) hb2
    go_wp2
    go_ret
    exact strB_of HE.out.symm (by (repeat (first | exact In.refl _ | assumption | apply In.alloc | apply In.drewN | apply In.drew | (refine In.step ?_ (by assumption)))))
end Go.Proofs.YtoljdgmfpebhdaaDoor
