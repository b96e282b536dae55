import Derived.Test.YtbnmbnkgpggnmaaDoorVars
import Derived.Test.YtbnmbnkgpggnmaaDoorNumber
namespace Go.Proofs.YtbnmbnkgpggnmaaDoor
open Go.ChangeShapes Go.WideShapes Go.ChangeAt Go.RowKit
set_option linter.unusedVariables false

theorem big_c (a : Option Addr) (len cap : Nat) (w : World) (hl : len ≤ maxLen) (b : Bool) (hb : decide ((1048576 : Int) < (len : Int)) = b) :
    Calls Tryd.prog 8 #[.slice a len cap] w fun e w' => e = .returned (.bool b) ∧ w = w' := by
  subst hb
  unfold maxLen at hl
  go_enter Tryd.func8, Tryd.ntmps8
  go_wp2
  go_ret
  exact ⟨rfl, rfl⟩
theorem Bytes.of_row {w : World} {a : Option Addr} {len cap : Nat} {zs : List Int} (h : IsRow .u8 w a len cap zs) : Bytes w w.heap.size a len := by
  rcases h with ⟨rfl, rfl, _, _⟩ | ⟨x, rfl, hl, hm, hz, hc, hw⟩
  · exact ⟨Nat.zero_le _, fun k hk => absurd hk (Nat.not_lt_zero _)⟩
  · refine ⟨by omega, fun k hk => ⟨x, zs.getD k 0, rfl, ?_, hc k (by omega), ?_⟩⟩
    · have := World.block_lt_of_cell? w _ (hc k (by omega)); rwa [block_of_add] at this
    · have hmem : zs.getD k 0 ∈ zs := by rw [List.getD_eq_getElem?_getD, List.getElem?_eq_getElem (by omega)]; exact List.getElem_mem _
      have := bounds_u8 (hw _ hmem)
      omega

theorem wrap_range (z : Int) : -9223372036854775808 ≤ wrap64 z ∧ wrap64 z ≤ 9223372036854775807 := bounds_i64 (wrap64_wf z)

def IntB (w : World) (e : Ending) (w' : World) : Prop := ∃ n : Int, (-9223372036854775808 ≤ n ∧ n ≤ 9223372036854775807) ∧ e = .returned (.int .i64 n) ∧ Below w.heap.size w w'

set_option maxHeartbeats 1000000 in
theorem drawFormatInt (a : Option Addr) (len cap : Nat) (w : World) (hb : Bytes w w.heap.size a len) :
    Calls Tryd.prog 13 #[.slice a len cap] w (IntB w) := by
  go_enter Tryd.func13, Tryd.ntmps13
  go_wp2_with fail
  refine (new_s a len cap w hb).mono ?_
  rintro e w1 ⟨rfl, hc1, hb1⟩
  have hs1 : St w.heap.size w.heap.size w1 w1 := ⟨hc1, only_refl _ _⟩
  go_wp2_with fail
  refine (once_s 3 _ _ _ _ (by omega) (by omega) hs1).mono ?_
  rintro e w2 ⟨b, rfl, hs2⟩
  cases b
  · go_wp2_with fail
    refine (number_s _ _ _ _ hs2).mono ?_
    rintro e w3 ⟨x, hx, rfl, hs3⟩
    have HX := Lib.hid (bounds_i64 hx)
    clear hx
    go_wp2_with fail
    go_ret
    exact ⟨_, ⟨HX.out.1, HX.out.2⟩, rfl, hs3.fin rfl hb1 (Nat.le_refl _)⟩
  · go_wp2_with fail
    refine (below_s 1000000 _ _ _ _ (by omega) (by omega) hs2).mono ?_
    rintro e w3 ⟨x, ⟨hx0, hx1⟩, rfl, hs3⟩
    go_wp2_with fail
    refine (below_s 2000000 _ _ _ _ (by omega) (by omega) hs3).mono ?_
    rintro e w4 ⟨y, ⟨hy0, hy1⟩, rfl, hs4⟩
    go_wp2_with fail
    go_ret
    exact ⟨_, wrap_range _, rfl, hs4.fin rfl hb1 (Nat.le_refl _)⟩

theorem itoa_ne (n : Int) : Lib.itoa n ≠ [] := by
  unfold Lib.itoa; split
  · simp
  · exact dec_ne _
theorem uintRes_itoa_no (n : Int) (h : n < 0 ∨ 1000000000 < n) : uintRes (Lib.itoa n) = .tuple #[.int .i64 0, .bool false] := uintRes_no _ fun m hm e => by
  by_cases hn : n < 0
  · have hd := dec_dig m 45 (by rw [← e]; unfold Lib.itoa; rw [if_pos hn]; simp)
    unfold isD at hd
    have : (45 : UInt8).toNat = 45 := rfl
    omega
  · have h2 := dv_dec m
    rw [← e, show n = ((n.toNat : Nat) : Int) from by omega, itoa_pos, dv_dec] at h2
    omega
theorem str_nonempty (l : List UInt8) (h : l ≠ []) : (⟨l.toArray⟩ : ByteArray).toList.isEmpty = false := by
  rw [ByteArray.toList_eq]
  cases l with
  | nil => exact absurd rfl h
  | cons a l => rfl

set_option maxHeartbeats 1000000 in
theorem walk_FnNumbers (a0 : Option Addr) (len0 cap0 : Nat) (z0 : List Int) (w : World) (w0 : IsRow .u8 w a0 len0 cap0 z0) (hL : laidMetH Tryd.prog Rows.fnNumbersRow.laid w) :
    Calls Tryd.prog 4 #[.slice a0 len0 cap0] w fun e w' => e = .returned (.bool true) ∧ Below w.heap.size w w' := by
  obtain ⟨tp1, tp2, p1, p2, hv⟩ := vars_of hL (by kernel_rfl) (by kernel_rfl) (by kernel_rfl)
  have HV := Lib.hid hv
  clear hv hL
  have hb := Bytes.of_row w0
  have hm := hb.1
  by_cases hbig : (1048576 : Int) < (len0 : Int)
  · go_enter Tryd.func4, Tryd.ntmps4
    go_wp2_with fail
    refine (big_c _ _ _ _ hm true (by simpa using hbig)).mono ?_
    rintro e w' ⟨rfl, rfl⟩
    go_wp2_with fail
    go_ret
    exact ⟨rfl, Below.refl _ _⟩
  · go_enter Tryd.func4, Tryd.ntmps4
    go_wp2_with fail
    refine (big_c _ _ _ _ hm false (by simpa using hbig)).mono ?_
    rintro e w' ⟨rfl, rfl⟩
    go_wp2_with fail
    refine (drawFormatInt _ _ _ _ hb).mono ?_
    rintro e w1 ⟨n, ⟨hn0, hn1⟩, rfl, hb1⟩
    clear hb hm hbig w0
    have C1 := implFmt n hn0 hn1 w1 (HV.out.below hb1).tab
    have hlen : (Lib.itoa n).length ≤ 21 := Lib.itoa_length_le n hn0 hn1
    have C2 := fun W (hW : Below w.heap.size w W) => implPu ⟨(Lib.itoa n).toArray⟩ (by show (Lib.itoa n).toArray.size ≤ _; simp; omega) W (HV.out.below hW)
    have hne := str_nonempty _ (itoa_ne n)
    by_cases hin : 0 ≤ n ∧ n ≤ 1000000000
    · obtain ⟨ha, hc⟩ := hin
      obtain ⟨m, rfl⟩ : ∃ m : Nat, n = m := ⟨n.toNat, by omega⟩
      have hr : uintRes (⟨(Lib.itoa (m : Int)).toArray⟩ : ByteArray).data.toList = .tuple #[.int .i64 m, .bool true] := by
        show uintRes (Lib.itoa (m : Int)) = _
        rw [itoa_pos]; exact uintRes_yes m (by omega)
      rw [hr] at C2
      generalize (⟨(Lib.itoa (m : Int)).toArray⟩ : ByteArray) = S at *
      have H1 := Lib.hid C1
      have H2 := Lib.hid C2
      clear C1 C2 hr hlen
      go_wp2_with fail
      refine H1.out.mono ?_
      rintro e w2 ⟨rfl, hb2⟩
      go_wp2_with fail
      refine (H2.out _ (hb1.trans (hb2.mono hb1.size))).mono ?_
      rintro e w3 ⟨rfl, hb3⟩
      go_wp2_with fail
      go_ret
      exact ⟨rfl, (hb1.trans (hb2.mono hb1.size)).trans (hb3.mono (hb1.trans (hb2.mono hb1.size)).size)⟩
    · have hr : uintRes (⟨(Lib.itoa n).toArray⟩ : ByteArray).data.toList = .tuple #[.int .i64 0, .bool false] := uintRes_itoa_no n (by omega)
      rw [hr] at C2
      generalize (⟨(Lib.itoa n).toArray⟩ : ByteArray) = S at *
      have H1 := Lib.hid C1
      have H2 := Lib.hid C2
      clear C1 C2 hr hlen
      by_cases hneg : n < 0
      all_goals
        go_wp2_with fail
        refine H1.out.mono ?_
        rintro e w2 ⟨rfl, hb2⟩
        go_wp2_with fail
        refine (H2.out _ (hb1.trans (hb2.mono hb1.size))).mono ?_
        rintro e w3 ⟨rfl, hb3⟩
        have hbig : n < 0 ∨ 1000000000 < n := by omega
        clear hin
        rcases hbig with hbig | hbig
        all_goals first
          | (exfalso; omega)
          | (go_wp2_with fail
             go_ret
             exact ⟨rfl, (hb1.trans (hb2.mono hb1.size)).trans (hb3.mono (hb1.trans (hb2.mono hb1.size)).size)⟩)
end Go.Proofs.YtbnmbnkgpggnmaaDoor
