/- Chapter 34: reading times and lengths: the contracts. -/
import Derived.Test.YtoljdgmfpebhdaaDoorR34P
import Derived.LoopTactic
import Derived.Laws.RangeAny
namespace Go.Proofs.YtoljdgmfpebhdaaDoor
open Go.ChangeShapes Go.WideShapes Go.ChangeAt Go.RowKit
set_option linter.unusedVariables false
set_option linter.unusedSimpArgs false
set_option maxHeartbeats 2000000

theorem str_ne (s : ByteArray) (l : List UInt8) (h : s.data.toList ≠ l) : (!l == s.toList) = true := by
  have e : s.toList = s.data.toList := ByteArray.toList_eq s
  rw [e]; simp only [Bool.not_eq_true', beq_eq_false_iff_ne, ne_eq]; exact fun e => h e.symm
theorem take_snoc' (s : ByteArray) (k : Nat) (h : k < s.size) : s.data.toList.take (k + 1) = s.data.toList.take k ++ [s[k]] := by
  rw [List.take_succ_eq_append_getElem (by simpa using h)]; simp [ByteArray.getElem_eq_getElem_data]
theorem dig_snoc (s : ByteArray) (k : Nat) (h : k < s.size) (hd : ∀ c ∈ s.data.toList.take k, isD c) (hc : isD s[k]) : ∀ c ∈ s.data.toList.take (k + 1), isD c := by
  rw [take_snoc' s k h]
  intro c hm
  rcases List.mem_append.1 hm with hm | hm
  · exact hd c hm
  · simp only [List.mem_singleton] at hm; subst hm; exact hc
theorem width_pos (s : ByteArray) (pos : Nat) (h : pos < s.size) : 1 ≤ (Utf8.decode s pos).2 := by
  by_cases ha : (s[pos]'h).toNat < 128
  · rw [decode_ascii s pos h ha]
    exact Nat.le_refl _
  · exact (decode_high s pos h (by omega)).2
theorem In.iter {w : World} (s : ByteArray) (pos : Nat) : In w.heap.size w (w.iter s pos) := (In.refl w).alloc _
set_option maxHeartbeats 4000000 in
theorem iMin (s : ByteArray) (mark : Int) (w : World) : Calls Tryd.prog 33 #[.string s, .int .i32 mark] w (Val (i64 (minIn s mark)) w) := by
  obtain ⟨R, hR⟩ : ∃ R, minIn s mark = R := ⟨_, rfl⟩
  have HR := Lib.hid hR
  rw [hR]
  clear hR
  go_enter Tryd.func33, Tryd.ntmps33
  go_wp2
  go_loopw [5, 6, 8] (fun m n c w' => ∃ (pos b : Nat) (x y : Int), w' = w.iter s pos ∧ m = .int .i64 x ∧ n = .int .i64 y ∧ rgo s mark b pos x y = R ∧ s.size ≤ pos + b) (fun _ _ _ w' => s.size - w'.iterPos w.heap.size)
  case atStart => exact ⟨0, s.size, 0, 0, rfl, rfl, rfl, HR.out, by omega⟩
  case round =>
    obtain ⟨pos, b, x, y, rfl, rfl, rfl, hc, hb⟩ := hrel
    have HC := Lib.hid hc
    clear hc HR
    by_cases hp : pos < s.size
    · have hnx : ∀ ty, (Instr.next (.pointer (some ⟨w.heap.size, 0, none⟩)) true ty).run Tryd.prog (w.iter s pos) = _ := fun ty => run_next_any w s pos ty hp
      have hwd := width_pos s pos hp
      have hle := decode_le s pos
      obtain ⟨b, rfl⟩ : ∃ b', b = b' + 1 := ⟨b - 1, by omega⟩
      have HS := Lib.hid (rgo_step s mark b pos x y hp)
      generalize Utf8.decode s pos = D at hnx hwd hle HS
      obtain ⟨r, hr⟩ : ∃ r : Int, (D.1 : Int) = r := ⟨_, rfl⟩
      have hr0 : 0 ≤ r ∧ r ≤ 2147483647 := by omega
      simp only [hr] at hnx HS
      clear hr hle
      by_cases h1 : 48 ≤ r
      · by_cases h2 : r ≤ 57
        · have HV := Lib.hid (show rstep mark x y r = (x, wrap64 (wrap64 (y * 10) + (r - 48))) from if_pos ⟨h1, h2⟩)
          have W1 : wrap32 (r - 48) = r - 48 := by unfold wrap32; omega
          have W2 : wrap64 (r - 48) = r - 48 := w64 ⟨by omega, by omega⟩
          go_wp2
          go_roundw
          case rel => exact ⟨pos + D.2, b, x, _, rfl, rfl, rfl, by rw [← HC.out, HS.out, HV.out], by omega⟩
          case measure => simp; omega
        · by_cases h3 : r = mark
          · have HV := Lib.hid (show rstep mark x y r = (wrap64 (y * 60), 0) by unfold rstep; rw [if_neg (by omega), if_pos h3])
            go_wp2
            go_roundw
            case rel => exact ⟨pos + D.2, b, _, 0, rfl, rfl, rfl, by rw [← HC.out, HS.out, HV.out], by omega⟩
            case measure => simp; omega
          · have HV := Lib.hid (show rstep mark x y r = (x, y) by unfold rstep; rw [if_neg (by omega), if_neg h3])
            go_wp2
            go_roundw
            case rel => exact ⟨pos + D.2, b, x, y, rfl, rfl, rfl, by rw [← HC.out, HS.out, HV.out], by omega⟩
            case measure => simp; omega
      · by_cases h3 : r = mark
        · have HV := Lib.hid (show rstep mark x y r = (wrap64 (y * 60), 0) by unfold rstep; rw [if_neg (by omega), if_pos h3])
          go_wp2
          go_roundw
          case rel => exact ⟨pos + D.2, b, _, 0, rfl, rfl, rfl, by rw [← HC.out, HS.out, HV.out], by omega⟩
          case measure => simp; omega
        · have HV := Lib.hid (show rstep mark x y r = (x, y) by unfold rstep; rw [if_neg (by omega), if_neg h3])
          go_wp2
          go_roundw
          case rel => exact ⟨pos + D.2, b, x, y, rfl, rfl, rfl, by rw [← HC.out, HS.out, HV.out], by omega⟩
          case measure => simp; omega
    · have HE := Lib.hid ((rgo_end s mark b pos x y hp).symm.trans HC.out)
      have hnx : ∀ ty, (Instr.next (.pointer (some ⟨w.heap.size, 0, none⟩)) true ty).run Tryd.prog (w.iter s pos) = _ := fun ty => run_next_end w s pos ty hp
      go_wp2
      go_ret
      exact Val.mk' (v_int HE.out) (In.iter s pos)
theorem iReadTime (s : ByteArray) (w : World) (hT : Tab w) : Calls Tryd.prog 10 #[.string s] w (Val (rdT s) w) := by
  have e := rdT_prog s
  have HM := Lib.hid (fun W => iMin s 58 W)
  have HT := Lib.hid hT
  clear hT
  generalize minIn s 58 = m at e HM
  by_cases h : timeB m = s
  · rw [if_pos h] at e
    have HE := Lib.hid e
    have HG := Lib.hid (fun W h => iTimeText m W h)
    rw [h] at HG
    clear e h
    go_enter Tryd.func10, Tryd.ntmps10
    go_wp2_with fail
    refine (HM.out _).mono ?_
    rintro _ w1 ⟨rfl, hb1⟩
    have i1 : In w.heap.size w w1 := In.step (In.refl _) hb1
    clear hb1
    go_wp2_with fail
    refine (HG.out _ (HT.out.in_ i1)).mono ?_
    rintro _ w2 ⟨rfl, hb2⟩
    have i2 : In w.heap.size w w2 := In.step i1 hb2
    go_wp2
    go_ret2
    exact Val.mk' HE.out.symm i2
  · rw [if_neg h] at e
    have HE := Lib.hid e
    have HG := Lib.hid (fun W h => iTimeText m W h)
    obtain ⟨l, hl⟩ : ∃ l, l = (timeB m).data.toList := ⟨_, rfl⟩
    have hs : timeB m = ⟨l.toArray⟩ := by subst hl; rfl
    rw [hs] at HG h
    have hne := str_ne s l (fun e => h (by subst e; rfl))
    clear e h hl hs
    go_enter Tryd.func10, Tryd.ntmps10
    go_wp2_with fail
    refine (HM.out _).mono ?_
    rintro _ w1 ⟨rfl, hb1⟩
    have i1 : In w.heap.size w w1 := In.step (In.refl _) hb1
    clear hb1
    go_wp2_with fail
    refine (HG.out _ (HT.out.in_ i1)).mono ?_
    rintro _ w2 ⟨rfl, hb2⟩
    have i2 : In w.heap.size w w2 := In.step i1 hb2
    go_wp2
    go_ret2
    exact Val.mk' HE.out.symm i2
theorem iReadLength (s : ByteArray) (w : World) (hT : Tab w) : Calls Tryd.prog 12 #[.string s] w (Val (rdL s) w) := by
  have e := rdL_prog s
  have HM := Lib.hid (fun W => iMin s 104 W)
  have HT := Lib.hid hT
  clear hT
  generalize minIn s 104 = m at e HM
  by_cases h : lenB m = s
  · rw [if_pos h] at e
    have HE := Lib.hid e
    have HG := Lib.hid (fun W h => iLengthText m W h)
    rw [h] at HG
    clear e h
    go_enter Tryd.func12, Tryd.ntmps12
    go_wp2_with fail
    refine (HM.out _).mono ?_
    rintro _ w1 ⟨rfl, hb1⟩
    have i1 : In w.heap.size w w1 := In.step (In.refl _) hb1
    clear hb1
    go_wp2_with fail
    refine (HG.out _ (HT.out.in_ i1)).mono ?_
    rintro _ w2 ⟨rfl, hb2⟩
    have i2 : In w.heap.size w w2 := In.step i1 hb2
    go_wp2
    go_ret2
    exact Val.mk' HE.out.symm i2
  · rw [if_neg h] at e
    have HE := Lib.hid e
    have HG := Lib.hid (fun W h => iLengthText m W h)
    obtain ⟨l, hl⟩ : ∃ l, l = (lenB m).data.toList := ⟨_, rfl⟩
    have hs : lenB m = ⟨l.toArray⟩ := by subst hl; rfl
    rw [hs] at HG h
    have hne := str_ne s l (fun e => h (by subst e; rfl))
    clear e h hl hs
    go_enter Tryd.func12, Tryd.ntmps12
    go_wp2_with fail
    refine (HM.out _).mono ?_
    rintro _ w1 ⟨rfl, hb1⟩
    have i1 : In w.heap.size w w1 := In.step (In.refl _) hb1
    clear hb1
    go_wp2_with fail
    refine (HG.out _ (HT.out.in_ i1)).mono ?_
    rintro _ w2 ⟨rfl, hb2⟩
    have i2 : In w.heap.size w w2 := In.step i1 hb2
    go_wp2
    go_ret2
    exact Val.mk' HE.out.symm i2
end Go.Proofs.YtoljdgmfpebhdaaDoor
