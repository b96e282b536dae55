import Derived.Test.YtbnmbnkgpggnmaaDoorFmt
import Derived.Test.YtbnmbnkgpggnmaaDoorNum
import Derived.Test.YtbnmbnkgpggnmaaDoorShelfAtoi
import Derived.Lib.SmallJoins
namespace Go.Proofs.YtbnmbnkgpggnmaaDoor
open Go.ChangeShapes Go.WideShapes Go.ChangeAt Go.RowKit
set_option linter.unusedVariables false

def ValB (v : Value) (w : World) (e : Ending) (w' : World) : Prop := e = .returned v ∧ Below w.heap.size w w'

theorem specPu_long (s : ByteArray) (w : World) (hs : s.size ≤ maxLen) (h : 10 < s.size) :
    Calls Tryd.prog 20 #[.string s] w (ValB (uintRes s.data.toList) w) := by
  have hr : uintRes s.data.toList = .tuple #[.int .i64 0, .bool false] := uintRes_no _ fun n hn e => by
    have := dec_len n hn; rw [← e] at this
    have h2 : s.data.toList.length = s.size := by simp
    omega
  rw [hr]
  clear hr
  unfold maxLen at hs
  go_enter Tryd.func20, Tryd.ntmps20
  go_wp2
  go_ret2
  exact ⟨rfl, Below.refl _ _⟩

theorem dig_snoc (s : ByteArray) (k : Nat) (h : k < s.size) (hd : ∀ c ∈ s.data.toList.take k, isD c) (hc : isD s[k]) : ∀ c ∈ s.data.toList.take (k + 1), isD c := by
  rw [take_snoc s k h]
  intro c hm
  rcases List.mem_append.1 hm with hm | hm
  · exact hd c hm
  · simp only [List.mem_singleton] at hm; subst hm; exact hc

theorem str_ext (s : ByteArray) (l : List UInt8) (h : s.data.toList = l) : s = ⟨l.toArray⟩ := by
  subst h; rfl
theorem str_ne (s : ByteArray) (l : List UInt8) (h : s.data.toList ≠ l) : (!l == s.toList) = true := by
  have e : s.toList = s.data.toList := ByteArray.toList_eq s
  rw [e]; simp only [Bool.not_eq_true', beq_eq_false_iff_ne, ne_eq]; exact fun e => h e.symm

set_option maxHeartbeats 1000000 in
theorem specPu (s : ByteArray) (w : World) (h : s.size ≤ 10) :
    Calls Tryd.prog 20 #[.string s] w (ValB (uintRes s.data.toList) w) := by
  obtain ⟨R, hR⟩ : ∃ R, R = uintRes s.data.toList := ⟨_, rfl⟩
  rw [← hR]
  have HR := Lib.hid hR
  clear hR
  go_enter Tryd.func20, Tryd.ntmps20
  go_wp2
  go_loop [4, 5] (fun n i => ∃ k : Nat, k ≤ s.size ∧ i = .int .i64 k ∧ n = .int .i64 (dv (s.data.toList.take k) : Nat) ∧ (∀ c ∈ s.data.toList.take k, isD c)) (fun _ i => s.size - (intOf i).toNat)
  case atStart => exact ⟨0, Nat.zero_le _, rfl, rfl, fun c hc => by simp at hc⟩
  case round =>
    obtain ⟨k, hk, rfl, rfl, hd⟩ := hrel
    have hb := dv_bound _ hd 10 (by have := List.length_take_le k s.data.toList; omega)
    have HD := Lib.hid hd
    clear hd
    by_cases hlt : k < s.size
    · have hsn : dv (s.data.toList.take (k + 1)) = dv (s.data.toList.take k) * 10 + (s[k].toNat - 48) := by rw [take_snoc s k hlt, dv_snoc]
      have HS := Lib.hid hsn
      clear hsn
      have hc := UInt8.toNat_lt s[k]
      by_cases hc1 : (s[k].toNat : Int) < 48
      · have hres : R = .tuple #[.int .i64 0, .bool false] := by
          rw [HR.out]; exact uintRes_no _ fun n hn e => by
            have := dec_dig n s[k] (by rw [← e]; simp [ByteArray.getElem_eq_getElem_data])
            unfold isD at this; omega
        subst hres
        clear HR
        go_wp2
        go_ret2
        exact ⟨rfl, Below.refl _ _⟩
      · by_cases hc2 : (57 : Int) < (s[k].toNat : Int)
        · have hres : R = .tuple #[.int .i64 0, .bool false] := by
            rw [HR.out]; exact uintRes_no _ fun n hn e => by
              have := dec_dig n s[k] (by rw [← e]; simp [ByteArray.getElem_eq_getElem_data])
              unfold isD at this; omega
          subst hres
          clear HR
          go_wp2
          go_ret2
          exact ⟨rfl, Below.refl _ _⟩
        · have hdd : isD s[k] := by unfold isD; omega
          have HDD := Lib.hid (dig_snoc s k hlt HD.out hdd)
          clear hdd
          generalize dv (s.data.toList.take k) = D at *
          go_wp2
          go_round
          case rel => exact ⟨k + 1, by omega, by go_num, by rw [HS.out]; go_num, HDD.out⟩
          case measure => simp [intOf]; omega
    · obtain rfl : k = s.size := by omega
      have hfull : s.data.toList.take s.size = s.data.toList := List.take_of_length_le (by simp)
      rw [hfull] at hb HD
      have HF := Lib.hid hfull
      obtain ⟨D, hD⟩ : ∃ D, D = dv s.data.toList := ⟨_, rfl⟩
      rw [hfull, ← hD]
      clear hfull
      rw [← hD] at hb
      have HDv := Lib.hid hD
      clear hD hk hlt
      by_cases hbig : (1000000000 : Int) < (D : Int)
      · have hres : R = .tuple #[.int .i64 0, .bool false] := by
          rw [HR.out]; exact uintRes_no _ fun n hn e => by
            have := dv_dec n; rw [← e, ← HDv.out] at this; omega
        subst hres
        clear HR
        go_wp2
        go_ret2
        exact ⟨rfl, Below.refl _ _⟩
      · have C := fun W => specFmt (D : Int) (by omega) (by omega) W
        rw [itoa_pos] at C
        by_cases he : s.data.toList = Lib.decDigits D
        · have hres : R = .tuple #[.int .i64 D, .bool true] := by
            rw [HR.out, he]; exact uintRes_yes D (by omega)
          subst hres
          rw [← he] at C
          have HC := Lib.hid C
          clear HR C he
          go_wp2_with fail
          refine (HC.out _).mono ?_
          rintro e w1 ⟨rfl, hb1⟩
          go_wp2_with fail
          go_ret2
          exact ⟨rfl, hb1⟩
        · have hres : R = .tuple #[.int .i64 0, .bool false] := by
            rw [HR.out]; exact uintRes_no _ fun n hn e => by
              have := dv_dec n; rw [← e, ← HDv.out] at this; subst this; exact he e
          subst hres
          have hne := str_ne s _ he
          have HE := Lib.hid he
          generalize Lib.decDigits D = t at *
          have HC := Lib.hid C
          clear HR C he
          go_wp2_with fail
          refine (HC.out _).mono ?_
          rintro e w1 ⟨rfl, hb1⟩
          go_wp2_with fail
          go_ret2
          exact ⟨rfl, hb1⟩

/-- what the variables of strconv hold -/
structure Vars (w : World) (tp1 tp2 : TypeId) (p1 p2 : Value) : Prop where
  tab : Lib.TabIs Tryd.prog w "internal/strconv.uint64pow10" .u64 Lib.pow10Tab
  syn : w.var? Tryd.prog "strconv.ErrSyntax" = some #[.iface tp1 p1]
  ran : w.var? Tryd.prog "strconv.ErrRange" = some #[.iface tp2 p2]

theorem bytesBelow (w : World) (e : TypeId) (t : ByteArray) : Below w.heap.size w (Lib.bytesWorld w e t) := Go.Joins.below_bytesWorld _ w e t (Nat.le_refl _)

def ErrB (n : Int) (w : World) (e : Ending) (w' : World) : Prop := ∃ (t : TypeId) (N : Nat), e = .returned (.tuple #[.int .i64 n, .iface t (.pointer (some ⟨N, 0, none⟩))]) ∧ Below w.heap.size w w'

theorem gTab : Tryd.prog.globalNamed "internal/strconv.uint64pow10" = some 3 := by kernel_rfl

theorem implPu_err (s : ByteArray) (w : World) (n : Int) (C : Calls Tryd.prog 29 #[.string s] w (ErrB n w)) (hr : uintRes s.data.toList = .tuple #[.int .i64 0, .bool false]) :
    Calls Tryd.prog 14 #[.string s] w (ValB (uintRes s.data.toList) w) := by
  rw [hr]
  have H := Lib.hid C
  clear C hr
  go_enter Tryd.func14, Tryd.ntmps14
  go_wp2_with fail
  refine H.out.mono ?_
  rintro e w1 ⟨t, N, rfl, hb⟩
  go_wp2_with fail
  go_ret2
  exact ⟨rfl, hb⟩

set_option maxHeartbeats 1000000 in
theorem implPu_ok (s : ByteArray) (w : World) (v : Int) (h0 : -9223372036854775808 ≤ v) (h1 : v ≤ 9223372036854775807) (C : Calls Tryd.prog 29 #[.string s] w (ValB (.tuple #[.int .i64 v, .nilIface]) w))
    (hat : Lib.atoiAll s.data.toList = .ok v) (htab : Lib.TabIs Tryd.prog w "internal/strconv.uint64pow10" .u64 Lib.pow10Tab) :
    Calls Tryd.prog 14 #[.string s] w (ValB (uintRes s.data.toList) w) := by
  have H := Lib.hid C
  have HT := Lib.hid htab
  have HAT := Lib.hid hat
  clear C htab hat
  by_cases hin : 0 ≤ v ∧ v ≤ 1000000000
  · obtain ⟨ha, hb⟩ := hin
    obtain ⟨D, rfl⟩ : ∃ D : Nat, v = D := ⟨v.toNat, by omega⟩
    have CF := fun W (hW : Below w.heap.size w W) => implFmt (D : Int) (by omega) (by omega) W (Go.Joins.tab_stays gTab HT.out hW (Nat.le_refl _))
    rw [itoa_pos] at CF
    by_cases he : s.data.toList = Lib.decDigits D
    · have hr := uintRes_yes D (by omega)
      rw [← he] at hr CF
      rw [hr]
      have HC := Lib.hid CF
      clear CF hr he
      go_enter Tryd.func14, Tryd.ntmps14
      go_wp2_with fail
      refine H.out.mono ?_
      rintro e w1 ⟨rfl, hb1⟩
      go_wp2_with fail
      refine (HC.out _ hb1).mono ?_
      rintro e w2 ⟨rfl, hb2⟩
      go_wp2_with fail
      go_ret2
      exact ⟨rfl, hb1.trans (hb2.mono hb1.size)⟩
    · have hr : uintRes s.data.toList = .tuple #[.int .i64 0, .bool false] := uintRes_no _ fun n hn e => by
        have h2 := atoi_dec n hn
        rw [← e, HAT.out] at h2
        injection h2 with h2
        obtain rfl : D = n := by omega
        exact he e
      rw [hr]
      have hne := str_ne s _ he
      generalize Lib.decDigits D = t at *
      have HC := Lib.hid CF
      clear CF hr he
      go_enter Tryd.func14, Tryd.ntmps14
      go_wp2_with fail
      refine H.out.mono ?_
      rintro e w1 ⟨rfl, hb1⟩
      go_wp2_with fail
      refine (HC.out _ hb1).mono ?_
      rintro e w2 ⟨rfl, hb2⟩
      go_wp2_with fail
      go_ret2
      exact ⟨rfl, hb1.trans (hb2.mono hb1.size)⟩
  · have hr : uintRes s.data.toList = .tuple #[.int .i64 0, .bool false] := uintRes_no _ fun n hn e => by
      have h2 := atoi_dec n hn
      rw [← e, HAT.out] at h2
      injection h2 with h2
      exact hin ⟨by omega, by omega⟩
    rw [hr]
    clear hr
    by_cases hneg : v < 0
    · clear hin
      go_enter Tryd.func14, Tryd.ntmps14
      go_wp2_with fail
      refine H.out.mono ?_
      rintro e w1 ⟨rfl, hb1⟩
      go_wp2_with fail
      go_ret2
      exact ⟨rfl, hb1⟩
    · have hbig : 1000000000 < v := by omega
      clear hin
      go_enter Tryd.func14, Tryd.ntmps14
      go_wp2_with fail
      refine H.out.mono ?_
      rintro e w1 ⟨rfl, hb1⟩
      go_wp2_with fail
      go_ret2
      exact ⟨rfl, hb1⟩

theorem atoi_wf (l : List UInt8) (v : Int) (h : Lib.atoiAll l = .ok v) : -9223372036854775808 ≤ v ∧ v ≤ 9223372036854775807 := by
  unfold Lib.atoiAll at h
  split at h
  · cases h
  · simp only at h
    split at h
    · cases h
    · cases h
    · split at h
      · cases h
      · split at h
        · cases h
        · injection h with h
          split at h <;> omega

theorem implPu (s : ByteArray) (hs : s.size ≤ 281474976710656) (w : World) {tp1 tp2 : TypeId} {p1 p2 : Value} (hv : Vars w tp1 tp2 p1 p2) :
    Calls Tryd.prog 14 #[.string s] w (ValB (uintRes s.data.toList) w) := by
  have hno : (∀ v, Lib.atoiAll s.data.toList ≠ .ok v) → uintRes s.data.toList = .tuple #[.int .i64 0, .bool false] := fun h => uintRes_no _ fun n hn e => by
    have h2 := atoi_dec n hn
    rw [← e] at h2
    exact h _ h2
  rcases h : Lib.atoiAll s.data.toList with v | _ | _
  · have hb := atoi_wf _ _ h
    refine implPu_ok s w v hb.1 hb.2 ((Tryd.strconv_Atoi_ok s (by omega) v h w).mono fun e w' ⟨he, hw⟩ => ⟨he, ?_⟩) h hv.tab
    rcases hw with rfl | ⟨t, rfl⟩
    · exact Below.refl _ _
    · exact bytesBelow _ _ _
  · exact implPu_err s w 0 ((Tryd.strconv_Atoi_syntax_var s hs h tp1 p1 w hv.syn).mono fun e w' ⟨N, he, _, _, hb⟩ => ⟨_, N, he, hb⟩) (hno fun v hv => by rw [h] at hv; cases hv)
  · exact implPu_err s w _ ((Tryd.strconv_Atoi_range_var s hs h tp2 p2 w hv.ran).mono fun e w' ⟨N, he, _, _, hb⟩ => ⟨_, N, he, hb⟩) (hno fun v hv => by rw [h] at hv; cases hv)
end Go.Proofs.YtbnmbnkgpggnmaaDoor
