/- Chapter 34: reading times and lengths: the contracts of the model. -/
import Derived.Test.YtoljdgmfpebhdaaDoorR34
namespace Go.Proofs.YtoljdgmfpebhdaaDoor
open Go.ChangeShapes Go.WideShapes Go.ChangeAt Go.RowKit
set_option linter.unusedVariables false
set_option linter.unusedSimpArgs false
set_option maxHeartbeats 2000000

set_option maxHeartbeats 1000000 in
theorem specPu (s : ByteArray) (w : World) (h : s.size ≤ 10) :
    Calls Tryd.prog 31 #[.string s] w (Val (uintRes s.data.toList) w) := by
  obtain ⟨R, hR⟩ : ∃ R, R = uintRes s.data.toList := ⟨_, rfl⟩
  rw [← hR]
  have HR := Lib.hid hR
  clear hR
  go_enter Tryd.func31, Tryd.ntmps31
  go_wp2
  go_loop [4, 5] (fun n i => ∃ k : Nat, k ≤ s.size ∧ i = .int .i64 k ∧ n = .int .i64 (dv (s.data.toList.take k) : Nat) ∧ (∀ c ∈ s.data.toList.take k, isD c)) (fun _ i => s.size - (intOf i).toNat)
  case atStart => exact ⟨0, Nat.zero_le _, rfl, rfl, fun c hc => by simp at hc⟩
  case round =>
    obtain ⟨k, hk, rfl, rfl, hd⟩ := hrel
    have hb := dv_bound _ hd 10 (by have := List.length_take_le k s.data.toList; omega)
    have HD := Lib.hid hd
    clear hd
    by_cases hlt : k < s.size
    · have hsn : dv (s.data.toList.take (k + 1)) = dv (s.data.toList.take k) * 10 + (s[k].toNat - 48) := by rw [take_snoc' s k hlt, dv_snoc]
      have HS := Lib.hid hsn
      clear hsn
      have hc := UInt8.toNat_lt s[k]
      by_cases hc1 : (s[k].toNat : Int) < 48
      · have hres : R = .tuple #[.int .i64 0, .bool false] := by
          rw [HR.out]; exact uintRes_no _ fun n hn e => by
            have := dec_dig n s[k] (by rw [← e]; simp [ByteArray.getElem_eq_getElem_data])
            unfold isD at this; omega
        subst hres
        clear HR
        go_wp2
        go_ret2
        exact ⟨rfl, Below.refl _ _⟩
      · by_cases hc2 : (57 : Int) < (s[k].toNat : Int)
        · have hres : R = .tuple #[.int .i64 0, .bool false] := by
            rw [HR.out]; exact uintRes_no _ fun n hn e => by
              have := dec_dig n s[k] (by rw [← e]; simp [ByteArray.getElem_eq_getElem_data])
              unfold isD at this; omega
          subst hres
          clear HR
          go_wp2
          go_ret2
          exact ⟨rfl, Below.refl _ _⟩
        · have hdd : isD s[k] := by unfold isD; omega
          have HDD := Lib.hid (dig_snoc s k hlt HD.out hdd)
          clear hdd
          generalize dv (s.data.toList.take k) = D at *
          go_wp2
          go_round
          case rel => exact ⟨k + 1, by omega, by go_num, by rw [HS.out]; go_num, HDD.out⟩
          case measure => simp [intOf]; omega
    · obtain rfl : k = s.size := by omega
      have hfull : s.data.toList.take s.size = s.data.toList := List.take_of_length_le (by simp)
      rw [hfull] at hb HD
      have HF := Lib.hid hfull
      obtain ⟨D, hD⟩ : ∃ D, D = dv s.data.toList := ⟨_, rfl⟩
      rw [hfull, ← hD]
      clear hfull
      rw [← hD] at hb
      have HDv := Lib.hid hD
      clear hD hk hlt
      by_cases hbig : (1000000000 : Int) < (D : Int)
      · have hres : R = .tuple #[.int .i64 0, .bool false] := by
          rw [HR.out]; exact uintRes_no _ fun n hn e => by
            have := dv_dec n; rw [← e, ← HDv.out] at this; omega
        subst hres
        clear HR
        go_wp2
        go_ret2
        exact ⟨rfl, Below.refl _ _⟩
      · have C := fun W => specFmt (D : Int) (by omega) (by omega) W
        rw [itoa_pos] at C
        by_cases he : s.data.toList = Lib.decDigits D
        · have hres : R = .tuple #[.int .i64 D, .bool true] := by
            rw [HR.out, he]; exact uintRes_yes D (by omega)
          subst hres
          rw [← he] at C
          have HC := Lib.hid C
          clear HR C he
          go_wp2_with fail
          refine (HC.out _).mono ?_
          rintro e w1 ⟨rfl, hb1⟩
          go_wp2_with fail
          go_ret2
          exact ⟨rfl, hb1⟩
        · have hres : R = .tuple #[.int .i64 0, .bool false] := by
            rw [HR.out]; exact uintRes_no _ fun n hn e => by
              have := dv_dec n; rw [← e, ← HDv.out] at this; subst this; exact he e
          subst hres
          have hne := str_ne s _ he
          have HE := Lib.hid he
          generalize Lib.decDigits D = t at *
          have HC := Lib.hid C
          clear HR C he
          go_wp2_with fail
          refine (HC.out _).mono ?_
          rintro e w1 ⟨rfl, hb1⟩
          go_wp2_with fail
          go_ret2
          exact ⟨rfl, hb1⟩

/-! what the text of a time has -/
theorem pad_two (q : Nat) (h : q < 60) : padL q = [UInt8.ofNat (48 + q / 10), UInt8.ofNat (48 + q % 10)] := by
  unfold padL
  by_cases h1 : q < 10
  · rw [if_pos h1, Lib.decDigits, dif_pos h1, Nat.div_eq_of_lt h1, Nat.mod_eq_of_lt h1]; rfl
  · rw [if_neg h1, Lib.decDigits, dif_neg h1, Lib.decDigits, dif_pos (by omega)]; rfl
def mvl (s : ByteArray) : Nat → Int
  | 0 => 0
  | j + 1 => 10 * mvl s j + (((s.data.toList.getD (s.size - 2 + j) 0).toNat : Int) - 48)
theorem time_parts {s : ByteArray} {m : Nat} (hm : m ≤ 1439) (e : timeB (m : Int) = s) :
    (4 ≤ s.size ∧ s.size ≤ 5) ∧ uintRes (s.data.toList.take (s.size - 3)) = .tuple #[.int .i64 ((m / 60 : Nat) : Int), .bool true] ∧ isD (s.data.toList.getD (s.size - 2 + 0) 0) ∧ isD (s.data.toList.getD (s.size - 2 + 1) 0) ∧ mvl s 2 = ((m % 60 : Nat) : Int) := by
  have hd := timeB_data m hm
  rw [e] at hd
  unfold timeL at hd
  rw [pad_two (m % 60) (by omega)] at hd
  have hl1 := dec_len1 (m / 60)
  have hl2 := dec_lenk (m / 60) 1 (by omega)
  have hsz : s.size = (Lib.decDigits (m / 60)).length + 3 := by
    have h2 := congrArg List.length hd
    simp at h2
    omega
  have hu := uintRes_yes (m / 60) (by omega)
  have e0 : s.size - 2 + 0 = (Lib.decDigits (m / 60)).length + 1 := by omega
  have e1 : s.size - 2 + 1 = (Lib.decDigits (m / 60)).length + 2 := by omega
  have g0 : s.data.toList.getD (s.size - 2 + 0) 0 = UInt8.ofNat (48 + m % 60 / 10) := by
    rw [hd, e0]; simp [List.getElem?_append_right]
  have g1 : s.data.toList.getD (s.size - 2 + 1) 0 = UInt8.ofNat (48 + m % 60 % 10) := by
    rw [hd, e1]; simp [List.getElem?_append_right]
  have t0 := digit_toNat (m % 60 / 10) (by omega)
  have t1 := digit_toNat (m % 60 % 10) (by omega)
  refine ⟨by omega, ?_, ?_, ?_, ?_⟩
  · rw [hd, show s.size - 3 = (Lib.decDigits (m / 60)).length by omega, List.take_left']
    · exact hu
    · rfl
  · rw [g0]; unfold isD; rw [t0]; omega
  · rw [g1]; unfold isD; rw [t1]; omega
  · show 10 * (10 * 0 + (((s.data.toList.getD (s.size - 2 + 0) 0).toNat : Int) - 48)) + (((s.data.toList.getD (s.size - 2 + 1) 0).toNat : Int) - 48) = _
    rw [g0, g1, t0, t1]
    omega
theorem uint_pos {l : List UInt8} {n : Int} (h : uintRes l = .tuple #[.int .i64 n, .bool true]) : 0 ≤ n := by
  unfold uintRes at h
  split at h
  · simp at h; omega
  · simp at h
theorem rdT_hit {s : ByteArray} {n : Int} (h : timeB n = s) (hs : 4 ≤ s.size) : rdT s = .tuple #[.int .i64 n, .bool true] := by
  by_cases hr : 0 ≤ n ∧ n ≤ 1439
  · obtain ⟨m, rfl⟩ := Int.eq_ofNat_of_zero_le hr.1
    rw [← h]; exact rdT_yes m (by omega)
  · rw [timeB_out n hr] at h
    subst h
    have : ByteArray.size ⟨#[]⟩ = 0 := rfl
    omega
theorem rdL_hit {s : ByteArray} {n : Int} (h : lenB n = s) (hs : s.size ≠ 0) : rdL s = .tuple #[.int .i64 n, .bool true] := by
  by_cases hr : 0 ≤ n ∧ n ≤ 100000
  · obtain ⟨m, rfl⟩ := Int.eq_ofNat_of_zero_le hr.1
    rw [← h]; exact rdL_yes m (by omega)
  · rw [lenB_out n hr] at h
    subst h
    exact absurd rfl hs
/-- the model's sums, at the text of a length -/
theorem rdL_sum {s : ByteArray} (h : lenB (lgo s.data.toList (0, 0)).1 ≠ s) : rdL s = .tuple #[.int .i64 0, .bool false] :=
  rdL_no s fun m hm e => h (by
    have hd := lenB_data m hm
    rw [e] at hd
    rw [hd, lgo_len, e])
end Go.Proofs.YtoljdgmfpebhdaaDoor
