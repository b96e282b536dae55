import Derived.Test.YtoljdgmfpebhdaaDoorRows
import Derived.Test.YtoljdgmfpebhdaaDoorHexDef
import Derived.Test.YtoljdgmfpebhdaaDoorShelfItoa
import Derived.Test.YtoljdgmfpebhdaaDoorDig
import Derived.Lib.ItoaLen
import Derived.WalkSpells
namespace Go.Proofs.YtoljdgmfpebhdaaDoor
open Go.ChangeShapes Go.WideShapes Go.ChangeAt Go.RowKit
set_option linter.unusedVariables false

theorem below_grow (w : World) (k : Nat) (os : Array Obj) : Below w.heap.size w (Go.Sort.grow (w.drewN k) os) :=
  ⟨rfl, rfl, rfl, by show _ ≤ (w.heap ++ os).size; simp, fun i hi => by show (w.heap ++ os)[i]? = _; rw [Array.getElem?_append_left hi]⟩

def StrB (s : ByteArray) (w : World) (e : Ending) (w' : World) : Prop := e = .returned (.string s) ∧ Below w.heap.size w w'

theorem implFmt (n : Int) (h0 : -9223372036854775808 ≤ n) (h1 : n ≤ 9223372036854775807) (w : World) (htab : Lib.TabIs Tryd.prog w "internal/strconv.uint64pow10" .u64 Lib.pow10Tab) :
    Calls Tryd.prog 36 #[.int .i64 n] w (StrB ⟨(Lib.itoa n).toArray⟩ w) := by
  have C : Calls Tryd.prog 54 #[.int .i64 n] w (StrB ⟨(Lib.itoa n).toArray⟩ w) :=
    (Tryd.strconv_Itoa n h0 h1 w htab).mono fun e w' ⟨he, k, os, hw⟩ => ⟨he, by rw [hw]; exact below_grow w k os⟩
  generalize (⟨(Lib.itoa n).toArray⟩ : ByteArray) = s at *
  have H := Lib.hid C
  clear C htab h0 h1
  go_enter Tryd.func36, Tryd.ntmps36
  go_wp2_with fail
  refine H.out.mono ?_
  rintro e w1 ⟨rfl, hb⟩
  go_wp2_with fail
  go_ret
  exact ⟨rfl, hb⟩

theorem hexd_small (n : Nat) (h : n < 10) : hexd n = UInt8.ofNat (48 + n) := by unfold hexd; rw [if_pos h]

theorem figureN (n : Nat) (w : World) (h1 : n < 10) :
    Calls Tryd.prog 60 #[.int .i64 (n : Int)] w fun e w' => e = .returned (.int .u8 ((hexd n).toNat : Int)) ∧ w = w' := by
  have hd := hexd_nat n (by omega)
  rw [if_pos h1] at hd
  have H := Lib.hid hd
  clear hd
  go_enter Tryd.func60, Tryd.ntmps60
  go_wp2
  go_ret
  exact ⟨ret_int (by rw [H.out]), rfl⟩

theorem figM (m : Nat) (w : World) :
    Calls Tryd.prog 60 #[.int .i64 ((m : Int) % 10)] w fun e w' => e = .returned (.int .u8 ((hexd (m % 10)).toNat : Int)) ∧ w = w' := by
  have h := figureN (m % 10) w (by omega)
  rwa [show ((m % 10 : Nat) : Int) = (m : Int) % 10 from by omega] at h

theorem itoa_neg (m : Nat) (h : 0 < m) : Lib.itoa (-(m : Int)) = 45 :: Lib.decDigits m := by
  unfold Lib.itoa; rw [if_pos (by omega)]; simp
theorem itoa_pos (m : Nat) : Lib.itoa (m : Int) = Lib.decDigits m := by
  unfold Lib.itoa; rw [if_neg (by omega)]; simp

set_option maxHeartbeats 1000000 in
theorem specFmt_pos (m0 : Nat) (h1 : 0 < m0) (h2 : m0 ≤ 9223372036854775807) (w : World) :
    Calls Tryd.prog 52 #[.int .i64 (m0 : Int)] w (StrB ⟨(Lib.itoa (m0 : Int)).toArray⟩ w) := by
  have hlen := decDigits_le m0 (by omega)
  have HI := Lib.hid (itoa_pos m0)
  have hne : ((m0 : Int) == 0) = false := by simp; omega
  go_enter Tryd.func52, Tryd.ntmps52
  go_wp2
  go_loopw [0, 4] (fun n s wr => ∃ (m : Nat) (t : List UInt8), m ≤ m0 ∧ n = .int .i64 m ∧ s = .string ⟨t.toArray⟩ ∧ dpre m ++ t = Lib.decDigits m0 ∧ Below w.heap.size w wr) (fun n _ _ => (intOf n).toNat)
  case atStart => exact ⟨m0, [], Nat.le_refl _, rfl, rfl, by unfold dpre; rw [if_neg (by omega)]; simp, Below.refl _ _⟩
  case round =>
    obtain ⟨m, t, hm, rfl, rfl, ht, hb⟩ := hrel
    have htl : t.length ≤ 100 := by have := congrArg List.length ht; simp at this; omega
    have HT := Lib.hid ht
    clear ht hne
    by_cases hz : m = 0
    · subst hz
      go_wp2
      go_ret
      exact ⟨by rw [HI.out, ← HT.out]; rfl, hb⟩
    · have hz2 : ((m : Int) != 0) = true := by simp; omega
      have hcv := fun W => conv_one (P := Tryd.prog) (hexd (m % 10)) 25 9 5 Tryd.underlying25 Tryd.underlying5 Tryd.underlying9 W
      have hadd := fun W => add_cons (P := Tryd.prog) (hexd (m % 10)) t htl W
      have hd0 : 0 ≤ (m : Int) % 10 := by omega
      have hB := hb.size
      go_wp2_with fail
      refine (figM m _).mono ?_
      rintro e w' ⟨rfl, rfl⟩
      go_wp2_with fail
      have HC := Lib.hid hcv
      clear hcv hadd hd0
      go_roundw
      case rel => exact ⟨m / 10, hexd (m % 10) :: t, by omega, by go_num, rfl, by rw [hexd_small _ (by omega)]; exact (dpre_step m hz t).trans HT.out, hb.alloc hB _⟩
      case measure => simp [intOf]; omega

theorem specFmt_zero (w : World) :
    Calls Tryd.prog 52 #[.int .i64 0] w (StrB ⟨(Lib.itoa 0).toArray⟩ w) := by
  have h : Lib.itoa 0 = [48] := by rw [show (0 : Int) = ((0 : Nat) : Int) from rfl, itoa_pos, Lib.decDigits_one (by omega)]; rfl
  rw [h]
  go_enter Tryd.func52, Tryd.ntmps52
  go_wp2
  go_ret
  exact ⟨rfl, Below.refl _ _⟩

theorem tmod_neg (m : Nat) : (-(m : Int)).tmod 10 = -((m : Int) % 10) := by
  rw [Int.neg_tmod, Int.tmod_eq_emod_of_nonneg (by omega)]
theorem tdiv_neg (m : Nat) : (-(m : Int)).tdiv 10 = -((m : Int) / 10) := by
  rw [Int.neg_tdiv, Int.tdiv_eq_ediv_of_nonneg (by omega)]

set_option maxHeartbeats 1000000 in
theorem specFmt_neg (m0 : Nat) (h1 : 0 < m0) (h2 : m0 ≤ 9223372036854775808) (w : World) :
    Calls Tryd.prog 52 #[.int .i64 (-(m0 : Int))] w (StrB ⟨(Lib.itoa (-(m0 : Int))).toArray⟩ w) := by
  have hlen := decDigits_le m0 (by omega)
  have HI := Lib.hid (itoa_neg m0 h1)
  have hne : (-(m0 : Int) == 0) = false := by simp; omega
  have hlt0 : -(m0 : Int) < 0 := by omega
  have HM := Lib.hid h2
  clear h2
  go_enter Tryd.func52, Tryd.ntmps52
  go_wp2
  go_loopw [0, 4] (fun n s wr => ∃ (m : Nat) (t : List UInt8), m ≤ m0 ∧ n = .int .i64 (-(m : Int)) ∧ s = .string ⟨t.toArray⟩ ∧ dpre m ++ t = Lib.decDigits m0 ∧ Below w.heap.size w wr) (fun n _ _ => (-(intOf n)).toNat)
  case atStart => exact ⟨m0, [], Nat.le_refl _, rfl, rfl, by unfold dpre; rw [if_neg (by omega)]; simp, Below.refl _ _⟩
  case round =>
    obtain ⟨m, t, hm, rfl, rfl, ht, hb⟩ := hrel
    have htl : t.length ≤ 100 := by have := congrArg List.length ht; simp at this; omega
    have HT := Lib.hid ht
    clear ht hne
    by_cases hz : m = 0
    · subst hz
      have hadd := fun W => add_cons (P := Tryd.prog) 45 t htl W
      go_wp2
      go_ret
      exact ⟨by rw [HI.out, ← HT.out]; rfl, hb⟩
    · have hz2 : (-(m : Int) != 0) = true := by simp; omega
      have em := tmod_neg m
      have ed := tdiv_neg m
      have hB := hb.size
      have hmm := HM.out
      have hlo : -9223372036854775808 ≤ -((m : Int) / 10) := by omega
      clear hmm
      by_cases hd0 : (m : Int) % 10 = 0
      · have e0 : m % 10 = 0 := by omega
        have E0 := Lib.hid e0
        clear e0
        have hcv := fun W => conv_one (P := Tryd.prog) (hexd 0) 25 9 5 Tryd.underlying25 Tryd.underlying5 Tryd.underlying9 W
        have hadd := fun W => add_cons (P := Tryd.prog) (hexd 0) t htl W
        go_wp2_with fail
        refine (figureN 0 _ (by omega)).mono ?_
        rintro e w' ⟨rfl, rfl⟩
        go_wp2_with fail
        have HC := Lib.hid hcv
        clear hcv hadd em ed
        go_roundw
        case rel => exact ⟨m / 10, hexd 0 :: t, by omega, by go_num, rfl, by rw [hexd_small _ (by omega)]; have := dpre_step m hz t; rw [E0.out] at this; exact this.trans HT.out, hb.alloc hB _⟩
        case measure => simp [intOf]; omega
      · have hd1 : 0 < (m : Int) % 10 := by omega
        clear hd0
        have hcv := fun W => conv_one (P := Tryd.prog) (hexd (m % 10)) 25 9 5 Tryd.underlying25 Tryd.underlying5 Tryd.underlying9 W
        have hadd := fun W => add_cons (P := Tryd.prog) (hexd (m % 10)) t htl W
        go_wp2_with fail
        refine (figM m _).mono ?_
        rintro e w' ⟨rfl, rfl⟩
        go_wp2_with fail
        have HC := Lib.hid hcv
        clear hcv hadd em ed
        go_roundw
        case rel => exact ⟨m / 10, hexd (m % 10) :: t, by omega, by go_num, rfl, by rw [hexd_small _ (by omega)]; exact (dpre_step m hz t).trans HT.out, hb.alloc hB _⟩
        case measure => simp [intOf]; omega

theorem specFmt (n : Int) (h0 : -9223372036854775808 ≤ n) (h1 : n ≤ 9223372036854775807) (w : World) :
    Calls Tryd.prog 52 #[.int .i64 n] w (StrB ⟨(Lib.itoa n).toArray⟩ w) := by
  rcases Int.lt_trichotomy n 0 with h | rfl | h
  · have e : n = -((n.natAbs : Nat) : Int) := by omega
    rw [e]
    exact specFmt_neg n.natAbs (by omega) (by omega) w
  · exact specFmt_zero w
  · have e : n = ((n.toNat : Nat) : Int) := by omega
    rw [e]
    exact specFmt_pos n.toNat (by omega) (by omega) w
end Go.Proofs.YtoljdgmfpebhdaaDoor
