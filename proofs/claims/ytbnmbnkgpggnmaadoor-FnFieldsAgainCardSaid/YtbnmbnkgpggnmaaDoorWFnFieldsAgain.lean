import Derived.Test.YtbnmbnkgpggnmaaDoorSplitB
import Derived.Test.YtbnmbnkgpggnmaaDoorJoin
import Derived.Test.YtbnmbnkgpggnmaaDoorDrawSplit
import Derived.Test.YtbnmbnkgpggnmaaDoorLaw
import Derived.Test.YtbnmbnkgpggnmaaDoorVars
import Derived.Deep.QuietTactic
import Derived.BigQuiet
namespace Go.Proofs.YtbnmbnkgpggnmaaDoor
open Go.ChangeShapes Go.WideShapes Go.ChangeAt Go.RowKit
set_option linter.unusedVariables false

set_option maxHeartbeats 1000000 in
theorem sameTexts_c (A B : Option Addr) (n c d : Nat) (xs : List ByteArray) (w : World) (hn : n ≤ maxLen) (hx : ReadsS w A n xs) (hy : ReadsS w B n xs) :
    Calls Tryd.prog 18 #[.slice A n c, .slice B n d] w (Still w (.bool true)) := by
  unfold maxLen at hn
  go_enter Tryd.func18, Tryd.ntmps18
  go_wp2
  go_loopw [5] (fun i wr => ∃ (k q : Nat), k ≤ n ∧ i = .int .i64 k ∧ wr = w.drewN q) (fun i _ => n - (intOf i).toNat)
  case atStart => exact ⟨0, 0, Nat.zero_le _, rfl, rfl⟩
  case round =>
    obtain ⟨k, q, hk, rfl, rfl⟩ := hrel
    by_cases hlt : k < n
    · obtain ⟨a, rfl, ha⟩ := hx.2 k hlt
      obtain ⟨b, rfl, hb⟩ := hy.2 k hlt
      generalize xs.getD k ByteArray.empty = x at ha hb
      go_wp2
      go_quiet (fail)
      go_wp2
      go_roundw
      case rel => exact ⟨k + 1, _, by omega, by go_num, rfl⟩
      case measure => simp [intOf]; omega
    · go_wp2
      go_ret
      exact ⟨rfl, below_drewN (Below.refl _ _) _⟩

theorem cat_list (a b : List UInt8) : (⟨a.toArray⟩ : ByteArray) ++ ⟨b.toArray⟩ = ⟨(a ++ b).toArray⟩ := by
  apply ByteArray.ext
  simp [ByteArray.data_append]
theorem take_next (xs : List ByteArray) (k : Nat) (h : k < xs.length) : xs.take (k + 1) = xs.take k ++ [xs.getD k ByteArray.empty] := by
  rw [List.take_succ_eq_append_getElem h, List.getD_eq_getElem?_getD, List.getElem?_eq_getElem h]; rfl

set_option maxRecDepth 100000 in
set_option maxHeartbeats 2000000 in
theorem walk_FnFieldsAgain (a0 : Option Addr) (len0 cap0 : Nat) (z0 : List Int) (w : World) (w0 : IsRow .u8 w a0 len0 cap0 z0) (hL : laidMetH Tryd.prog Rows.fnFieldsAgainRow.laid w) :
    Calls Tryd.prog 5 #[.slice a0 len0 cap0] w fun e w' => e = .returned (.bool true) ∧ Below w.heap.size w w' := by
  have htab := table hL (by kernel_rfl)
  have HT := Lib.hid htab
  clear htab hL
  have hb := Bytes.of_row w0
  have hm := hb.1
  by_cases hbig : (1048576 : Int) < (len0 : Int)
  · go_enter Tryd.func5, Tryd.ntmps5
    go_wp2_with fail
    refine (big_c _ _ _ _ hm true (by simpa using hbig)).mono ?_
    rintro e w' ⟨rfl, rfl⟩
    go_wp2_with fail
    go_ret
    exact ⟨rfl, Below.refl _ _⟩
  · go_enter Tryd.func5, Tryd.ntmps5
    go_wp2_with fail
    refine (big_c _ _ _ _ hm false (by simpa using hbig)).mono ?_
    rintro e w' ⟨rfl, rfl⟩
    go_wp2_with fail
    refine (drawSplitFields _ _ _ _ hb).mono ?_
    rintro e w1 ⟨s, hsz, rfl, hb1⟩
    clear hb hm hbig w0
    obtain ⟨xs, b, hl, hans, C1, C2⟩ := split_both s (by unfold maxLen; omega)
    have H1 := Lib.hid C1
    have H2 := Lib.hid C2
    have HA := Lib.hid hans
    clear C1 C2 hans
    have hB1 := hb1.size
    go_wp2_with fail
    refine (H2.out _).mono ?_
    rintro e w2 ⟨A2, c2, rfl, hown2, hb2⟩
    have hbw2 := hb1.trans (hb2.mono hB1)
    go_wp2_with fail
    refine (H1.out _).mono ?_
    rintro e w3 ⟨A3, c3, rfl, _, hb3⟩
    have hown3 := own_below hown2 hb3 (Nat.le_refl _)
    have hbw3 := hbw2.trans (hb3.mono hbw2.size)
    clear hown2
    rcases HA.out with ⟨rfl, rfl⟩ | ⟨hxs, rfl, h6, hok⟩
    · have hf : Lib.itoa (-3) = [45, 51] := by rw [show (-3 : Int) = -((3 : Nat) : Int) from rfl, itoa_neg 3 (by omega), Lib.decDigits_one (by omega)]; rfl
      have C1 := fun W (hW : Below w.heap.size w W) => implFmt (-3) (by omega) (by omega) W (Go.Joins.tab_stays gTab HT.out hW (Nat.le_refl _))
      rw [hf] at C1
      have H3 := Lib.hid C1
      clear C1 hf hl
      go_wp2_with fail
      refine (H3.out _ hbw3).mono ?_
      rintro e w4 ⟨rfl, hb4⟩
      go_wp2_with fail
      go_ret
      exact ⟨rfl, hbw3.trans (hb4.mono hbw3.size)⟩
    · have hgood : ∀ f ∈ xs, Good f := by rw [hxs]; exact fields_good s h6 hok
      have HG := Lib.hid hgood
      have HX := Lib.hid hxs
      clear hgood hxs hok
      go_wp2_with fail
      go_loop [8, 9] (fun v i => ∃ k : Nat, k ≤ xs.length ∧ i = .int .i64 k ∧ v = .string ⟨(J (xs.take k)).toArray⟩) (fun _ i => xs.length - (intOf i).toNat)
      case atStart => exact ⟨0, Nat.zero_le _, rfl, rfl⟩
      case round =>
        obtain ⟨k, hk, rfl, rfl⟩ := hrel
        have hJl := J_len (xs.take k) (fun f hf => HG.out f (List.mem_of_mem_take hf))
        have htl : (xs.take k).length = k := by rw [List.length_take]; omega
        rw [htl] at hJl
        have HTL := Lib.hid htl
        clear htl
        by_cases hlt : k < xs.length
        · obtain ⟨ad, rfl, had⟩ := (reads_own hown3).2 k hlt
          have hmem : xs.getD k ByteArray.empty ∈ xs := by rw [List.getD_eq_getElem?_getD, List.getElem?_eq_getElem hlt]; exact List.getElem_mem _
          have hgk := HG.out _ hmem
          have hnext : J (xs.take (k + 1)) = J (xs.take k) ++ (xs.getD k ByteArray.empty).data.toList ++ [32] := by rw [take_next xs k hlt, J_snoc]
          have hfs := hgk.2.1
          have hadd1 := fun W => cat_run (P := Tryd.prog) ⟨(J (xs.take k)).toArray⟩ (xs.getD k ByteArray.empty) (by show ((J (xs.take k)).toArray.size : Int) ≤ _; simp; omega) (by omega) W
          have e1 : (⟨(J (xs.take k)).toArray⟩ : ByteArray) ++ xs.getD k ByteArray.empty = ⟨(J (xs.take k) ++ (xs.getD k ByteArray.empty).data.toList).toArray⟩ := cat_list _ _
          rw [e1] at hadd1
          have hsz2 := Lib.size_eq (xs.getD k ByteArray.empty)
          have hadd2 := fun W => cat_run (P := Tryd.prog) ⟨(J (xs.take k) ++ (xs.getD k ByteArray.empty).data.toList).toArray⟩ ⟨#[32]⟩ (by show ((J (xs.take k) ++ (xs.getD k ByteArray.empty).data.toList).toArray.size : Int) ≤ _; rw [List.size_toArray, List.length_append]; omega) (by show ((1 : Nat) : Int) ≤ _; omega) W
          have e2 : (⟨(J (xs.take k) ++ (xs.getD k ByteArray.empty).data.toList).toArray⟩ : ByteArray) ++ ⟨#[32]⟩ = ⟨(J (xs.take (k + 1))).toArray⟩ := by rw [hnext]; exact cat_list _ [32]
          rw [e2] at hadd2
          clear e1 e2 hnext hsz2 hgk hmem hJl
          obtain ⟨S2, hS2⟩ : ∃ S2 : ByteArray, S2 = ⟨(J (xs.take (k + 1))).toArray⟩ := ⟨_, rfl⟩
          rw [← hS2] at hadd2
          have HS2 := Lib.hid hS2
          clear hS2
          generalize (⟨(J (xs.take k) ++ (xs.getD k ByteArray.empty).data.toList).toArray⟩ : ByteArray) = S1 at hadd1 hadd2
          generalize (⟨(J (xs.take k)).toArray⟩ : ByteArray) = S0 at hadd1 ⊢
          generalize xs.getD k ByteArray.empty = F at had hadd1 hfs
          go_wp2_with fail
          have HC := Lib.hid had
          clear had hadd1 hadd2 hfs
          go_round
          case rel => exact ⟨k + 1, by omega, by go_num, by rw [HS2.out]⟩
          case measure => simp [intOf]; omega
        · obtain rfl : k = xs.length := by omega
          have hfull : xs.take xs.length = xs := List.take_of_length_le (Nat.le_refl _)
          rw [hfull] at hJl ⊢
          clear hfull
          have hSs : (⟨(J xs).toArray⟩ : ByteArray).size = (J xs).length := by show (J xs).toArray.size = _; simp
          have hfj := fields_join xs HG.out
          have hjo := join_ok xs HG.out
          obtain ⟨S, hS⟩ : ∃ S : ByteArray, S = ⟨(J xs).toArray⟩ := ⟨_, rfl⟩
          rw [← hS] at hSs hfj hjo ⊢
          have hSl : (S.size : Int) ≤ 20000 := by omega
          have HSE := Lib.hid hS
          clear hS hJl
          have HFJ := Lib.hid hfj
          have HJO := Lib.hid hjo
          have HSS := Lib.hid hSs
          clear hfj hjo hSs
          by_cases h600 : (S.size : Int) ≤ 600
          · have C := fun W => implSplit S W h600 xs true (fun _ _ => ⟨HFJ.out.symm, rfl⟩) (fun h => by
              rcases h with ⟨i, hi, hb⟩ | h
              · exact absurd hb (HJO.out i hi)
              · rw [HFJ.out] at h; omega)
            have H5 := Lib.hid C
            clear C
            go_wp2_with fail
            refine (H5.out _).mono ?_
            rintro e w5 ⟨A5, c5, rfl, hown5, hb5⟩
            have hown6 := own_below hown3 hb5 (Nat.le_refl _)
            have hbw5 := hbw3.trans (hb5.mono hbw3.size)
            go_wp2_with fail
            refine (sameTexts_c A2 A5 xs.length c2 c5 xs w5 (by unfold maxLen; omega) (reads_own hown6) (reads_own hown5)).mono ?_
            rintro e w6 ⟨rfl, hb6⟩
            go_wp2_with fail
            go_ret
            exact ⟨rfl, hbw5.trans (hb6.mono hbw5.size)⟩
          · have h601 : (600 : Int) < S.size := by omega
            clear h600
            have C := fun W => implSplit_long S W (by unfold maxLen; omega) h601
            have H5 := Lib.hid C
            clear C
            go_wp2_with fail
            refine (H5.out _).mono ?_
            rintro e w5 ⟨A5, c5, rfl, hown5, hb5⟩
            have hbw5 := hbw3.trans (hb5.mono hbw3.size)
            go_wp2_with fail
            go_ret
            exact ⟨rfl, hbw5⟩
end Go.Proofs.YtbnmbnkgpggnmaaDoor
