/- Chapter 26: PeakPower, OverTimes. -/
import Derived.Test.YthndjpklfgcpmaaE26
namespace Go.Proofs.Ythndjpklfgcpmaa
open Go.ChangeShapes Go.WideShapes Go.ChangeAt Go.RowKit
set_option linter.unusedVariables false
set_option linter.unusedSimpArgs false
set_option maxHeartbeats 2000000

def peakT (n : Nat) (xs : List MachineR) : Value := if machB n xs then .tuple #[i64 (amax (pwF xs n) 1440 : Nat), i64 (pwF xs n (amax (pwF xs n) 1440))] else .tuple #[i64 (-1), i64 (-1)]
theorem peakT_eq (n : Nat) (xs : List MachineR) : peakT n xs = .tuple #[i64 (peakM n xs), i64 (peakW n xs)] := by
  unfold peakT peakM peakW; split <;> rfl
set_option maxRecDepth 20000 in
theorem sPeakTup (A : Option Addr) (n c : Nat) (xs : List MachineR) (w : World) (hn : n ≤ maxLen) (hx : ReadsMachine w A n xs) : Calls Try.prog 36 #[.slice A n c] w (Val (.tuple #[i64 (peakM n xs), i64 (peakW n xs)]) w) := by
  cases hB : machB n xs
  · have HV : Hid (peakM n xs = -1 ∧ peakW n xs = -1) := Lib.hid (by simp [peakM, peakW, hB])
    go_enter Try.func36, Try.ntmps36
    go_wp2_with (go_at_call 65; (with_reducible refine (sMachinesOk A n c xs _ hn hx).mono ?_); rintro _ w1 ⟨rfl, hb1⟩; rw [hB])
    have hv := HV.out
    exact bodyPost_ret (v := .tuple #[i64 (-1), i64 (-1)]) (by simp [results, Try.results36, go_sem]) rfl (Val.mk' (by rw [hv.1, hv.2]) (by (repeat (first | exact In.refl _ | assumption | apply In.alloc | apply In.drewN | apply In.drew | (refine In.step ?_ (by assumption))))))
  have HV : Hid (peakM n xs = (amax (pwF xs n) 1440 : Nat) ∧ peakW n xs = pwF xs n (amax (pwF xs n) 1440)) := Lib.hid (by simp [peakM, peakW, hB])
  obtain ⟨h12, hs⟩ := mach_at hB
  have HS := Lib.hid hs
  have HL := Lib.hid (amax_lt (pwF xs n) 1440 (by omega))
  clear hs
  go_enter Try.func36, Try.ntmps36
  go_wp2_with (go_at_call 65; (with_reducible refine (sMachinesOk A n c xs _ hn hx).mono ?_); rintro _ w1 ⟨rfl, hb1⟩; rw [hB])
  have i1 : In w.heap.size w w1 := In.step (by (repeat (first | exact In.refl _ | assumption | apply In.alloc | apply In.drewN | apply In.drew | (refine In.step ?_ (by assumption))))) hb1
  refine (sPowers A n c xs _ h12 HS.out (hx.in_ (by (repeat (first | exact In.refl _ | assumption | apply In.alloc | apply In.drewN | apply In.drew | (refine In.step ?_ (by assumption))))))).mono ?_
  rintro _ w2 ⟨g, rfl, hwa, hb2⟩
  have i2 : In w.heap.size w w2 := In.step (by (repeat (first | exact In.refl _ | assumption | apply In.alloc | apply In.drewN | apply In.drew | (refine In.step ?_ (by assumption))))) hb2
  have HW := Lib.hid (fun (u : Nat) (hu : (u : Int) < 1440) => hwa.cell u (by omega))
  clear hwa hb1 hb2 i1
  have HS1 := Lib.hid (amax_succ (pwF xs n))
  have HLE := Lib.hid (amax_le (pwF xs n))
  generalize pwF xs n = f at *
  obtain ⟨N, hN⟩ : ∃ N : Nat, 1440 = N := ⟨_, rfl⟩
  have HN := Lib.hid hN
  rw [hN] at HV HL
  clear hN
  go_wp2
  go_loopw [5, 6] (fun b i wr => ∃ k : Nat, k ≤ N ∧ i = .int .i64 k ∧ b = .int .i64 (amax f k : Nat) ∧ In w.heap.size w wr ∧ In w2.heap.size w2 wr) (fun _ i _ => N - (intOf i).toNat)
  case atStart => exact ⟨0, Nat.zero_le _, rfl, rfl, i2, In.refl _⟩
  case round =>
    clear i2
    obtain ⟨k, hk, rfl, rfl, hi, hj⟩ := hrel
    by_cases hlt : k < N
    · have hki : (k : Int) < 1440 := by have := HN.out; omega
      have h1 := HS1.out k
      have h2 := HLE.out k
      obtain ⟨p, hp⟩ : ∃ p, amax f k = p := ⟨_, rfl⟩
      rw [hp] at h1 h2 ⊢
      have hpi : (p : Int) < 1440 := by omega
      have hck := cell_in (HW.out k hki) hj
      have hcp := cell_in (HW.out p hpi) hj
      have HS2 := Lib.hid h1
      clear h1 hp
      obtain ⟨x, hx9⟩ : ∃ x, f k = x := ⟨_, rfl⟩
      obtain ⟨y, hy9⟩ : ∃ y, f p = y := ⟨_, rfl⟩
      rw [hx9] at hck HS2
      rw [hy9] at hcp HS2
      clear hx9 hy9 h2 hlt hk
      by_cases hxy : y < x
      · go_wp2
        go_quiet (fail)
        go_wp2
        go_roundw
        case rel => exact ⟨k + 1, by have := HN.out; omega, by go_num, v_int (by rw [HS2.out, if_pos hxy]), by (repeat (first | exact In.refl _ | assumption | apply In.alloc | apply In.drewN | apply In.drew | (refine In.step ?_ (by assumption)))), by (repeat (first | exact In.refl _ | assumption | apply In.alloc | apply In.drewN | apply In.drew | (refine In.step ?_ (by assumption))))⟩
        case measure => have := HN.out; simp [intOf]; omega
      · go_wp2
        go_quiet (fail)
        go_wp2
        go_roundw
        case rel => exact ⟨k + 1, by have := HN.out; omega, by go_num, v_int (by rw [HS2.out, if_neg (by omega)]), by (repeat (first | exact In.refl _ | assumption | apply In.alloc | apply In.drewN | apply In.drew | (refine In.step ?_ (by assumption)))), by (repeat (first | exact In.refl _ | assumption | apply In.alloc | apply In.drewN | apply In.drew | (refine In.step ?_ (by assumption))))⟩
        case measure => have := HN.out; simp [intOf]; omega
    · obtain rfl : N = k := by omega
      have h1 := HL.out
      have h2 := HN.out
      obtain ⟨p, hp⟩ : ∃ p, amax f N = p := ⟨_, rfl⟩
      rw [hp] at h1 HV ⊢
      have hpi : (p : Int) < 1440 := by omega
      have hcp := cell_in (HW.out p hpi) hj
      have hki : ¬ (N : Int) < 1440 := by omega
      obtain ⟨y, hy9⟩ : ∃ y, f p = y := ⟨_, rfl⟩
      rw [hy9] at hcp HV
      clear hy9 h1 h2 hlt hk hp
      go_wp2
      go_quiet (fail)
      go_wp2
      have hv := HV.out
      exact bodyPost_ret (v := .tuple #[i64 p, i64 y]) (by simp [results, Try.results36, go_sem]) rfl (Val.mk' (by rw [hv.1, hv.2]) (by (repeat (first | exact In.refl _ | assumption | apply In.alloc | apply In.drewN | apply In.drew | (refine In.step ?_ (by assumption))))))
theorem sPeakPower (A : Option Addr) (n c : Nat) (xs : List MachineR) (w : World) (hn : n ≤ maxLen) (hx : ReadsMachine w A n xs) : Calls Try.prog 36 #[.slice A n c] w (Val (peakT n xs) w) := by
  have h := sPeakTup A n c xs w hn hx
  rw [← peakT_eq] at h
  exact h
set_option maxRecDepth 20000 in
theorem sOverTimes (A : Option Addr) (n c : Nat) (xs : List MachineR) (M : Int) (w : World) (hn : n ≤ maxLen) (hx : ReadsMachine w A n xs) : Calls Try.prog 40 #[.slice A n c, .int .i64 M] w (Val (i64 (overV n xs M)) w) := by
  cases hB : machB n xs
  · have HV : Hid (overV n xs M = -1) := Lib.hid (by simp [overV, hB])
    go_enter Try.func40, Try.ntmps40
    go_wp2_with (go_at_call 65; (with_reducible refine (sMachinesOk A n c xs _ hn hx).mono ?_); rintro _ w1 ⟨rfl, hb1⟩; rw [hB])
    go_ret
    exact Val.mk' (v_int HV.out.symm) (by (repeat (first | exact In.refl _ | assumption | apply In.alloc | apply In.drewN | apply In.drew | (refine In.step ?_ (by assumption)))))
  cases h1 : inB M 0 1000000
  · have HV : Hid (overV n xs M = -1) := Lib.hid (by simp [overV, h1])
    go_enter Try.func40, Try.ntmps40
    go_wp2_with (first | (go_at_call 65; (with_reducible refine (sMachinesOk A n c xs _ hn hx).mono ?_); rintro _ w1 ⟨rfl, hb1⟩; rw [hB]) | (go_at_call 48; (with_reducible refine (sInE h1 _).mono ?_); rintro e w' ⟨rfl, rfl⟩))
    go_ret
    exact Val.mk' (v_int HV.out.symm) (by (repeat (first | exact In.refl _ | assumption | apply In.alloc | apply In.drewN | apply In.drew | (refine In.step ?_ (by assumption)))))
  have HV : Hid (overV n xs M = ovr (pwF xs n) M 1440) := Lib.hid (by simp [overV, hB, h1])
  obtain ⟨h12, hs⟩ := mach_at hB
  have HS := Lib.hid hs
  clear hs
  go_enter Try.func40, Try.ntmps40
  go_wp2_with (first | (go_at_call 65; (with_reducible refine (sMachinesOk A n c xs _ hn hx).mono ?_); rintro _ w1 ⟨rfl, hb1⟩; rw [hB]) | (go_at_call 48; (with_reducible refine (sInE h1 _).mono ?_); rintro e w' ⟨rfl, rfl⟩))
  have i1 : In w.heap.size w w1 := In.step (by (repeat (first | exact In.refl _ | assumption | apply In.alloc | apply In.drewN | apply In.drew | (refine In.step ?_ (by assumption))))) hb1
  refine (sPowers A n c xs _ h12 HS.out (hx.in_ (by (repeat (first | exact In.refl _ | assumption | apply In.alloc | apply In.drewN | apply In.drew | (refine In.step ?_ (by assumption))))))).mono ?_
  rintro _ w2 ⟨g, rfl, hwa, hb2⟩
  have i2 : In w.heap.size w w2 := In.step (by (repeat (first | exact In.refl _ | assumption | apply In.alloc | apply In.drewN | apply In.drew | (refine In.step ?_ (by assumption))))) hb2
  have HW := Lib.hid (fun (u : Nat) (hu : (u : Int) < 1440) => hwa.cell u (by omega))
  clear hwa
  have HSU := Lib.hid (ovr_succ (pwF xs n) M)
  have HIN := Lib.hid (ovr_in (pwF xs n) M)
  clear hb1 hb2 i1
  generalize pwF xs n = f at *
  obtain ⟨N, hN⟩ : ∃ N : Nat, 1440 = N := ⟨_, rfl⟩
  have HN := Lib.hid hN
  rw [hN] at HV
  clear hN
  skip
  go_wp2
  go_loopw [5, 7] (fun b i wr => ∃ k : Nat, k ≤ N ∧ i = .int .i64 k ∧ b = .int .i64 (ovr f M k) ∧ In w.heap.size w wr ∧ In w2.heap.size w2 wr) (fun _ i _ => N - (intOf i).toNat)
  case atStart => exact ⟨0, Nat.zero_le _, rfl, rfl, i2, In.refl _⟩
  case round =>
    clear i2
    obtain ⟨k, hk, rfl, rfl, hi, hj⟩ := hrel
    by_cases hlt : k < N
    · have hki : (k : Int) < 1440 := by have := HN.out; omega
      have HSU1 := Lib.hid (HSU.out k)
      have hin := HIN.out k
      have hk9 : (k : Int) ≤ 1440 := by have := HN.out; omega
      have hck := cell_in (HW.out k hki) hj
      obtain ⟨x, hx9⟩ : ∃ x, f k = x := ⟨_, rfl⟩
      obtain ⟨y, hy9⟩ : ∃ y, ovr f M k = y := ⟨_, rfl⟩
      rw [hx9] at hck HSU1
      rw [hy9] at HSU1 hin ⊢
      clear hx9 hy9
      by_cases hxy : M < x
      · go_wp2
        go_roundw
        case rel => exact ⟨k + 1, by have := HN.out; omega, by go_num, v_int (by rw [HSU1.out, if_pos hxy]), by (repeat (first | exact In.refl _ | assumption | apply In.alloc | apply In.drewN | apply In.drew | (refine In.step ?_ (by assumption)))), by (repeat (first | exact In.refl _ | assumption | apply In.alloc | apply In.drewN | apply In.drew | (refine In.step ?_ (by assumption))))⟩
        case measure => have := HN.out; simp [intOf]; omega
      · go_wp2
        go_roundw
        case rel => exact ⟨k + 1, by have := HN.out; omega, by go_num, v_int (by rw [HSU1.out, if_neg (by omega)]), by (repeat (first | exact In.refl _ | assumption | apply In.alloc | apply In.drewN | apply In.drew | (refine In.step ?_ (by assumption)))), by (repeat (first | exact In.refl _ | assumption | apply In.alloc | apply In.drewN | apply In.drew | (refine In.step ?_ (by assumption))))⟩
        case measure => have := HN.out; simp [intOf]; omega
    · obtain rfl : N = k := by omega
      have hki : ¬ (N : Int) < 1440 := by have := HN.out; omega
      go_wp2
      go_ret
      exact Val.mk' (v_int (by rw [HV.out])) (by (repeat (first | exact In.refl _ | assumption | apply In.alloc | apply In.drewN | apply In.drew | (refine In.step ?_ (by assumption)))))
set_option maxRecDepth 20000 in
theorem iPeakTup (A : Option Addr) (n c : Nat) (xs : List MachineR) (w : World) (hn : n ≤ maxLen) (hx : ReadsMachine w A n xs) : Calls Try.prog 38 #[.slice A n c] w (Val (.tuple #[i64 (peakM n xs), i64 (peakW n xs)]) w) := by
  cases hB : machB n xs
  · have HV : Hid (peakM n xs = -1 ∧ peakW n xs = -1) := Lib.hid (by simp [peakM, peakW, hB])
    go_enter Try.func38, Try.ntmps38
    go_wp2_with (go_at_call 47; (with_reducible refine (iMachinesOk A n c xs _ hn hx).mono ?_); rintro _ w1 ⟨rfl, hb1⟩; rw [hB])
    have hv := HV.out
    exact bodyPost_ret (v := .tuple #[i64 (-1), i64 (-1)]) (by simp [results, Try.results38, go_sem]) rfl (Val.mk' (by rw [hv.1, hv.2]) (by (repeat (first | exact In.refl _ | assumption | apply In.alloc | apply In.drewN | apply In.drew | (refine In.step ?_ (by assumption))))))
  have HV : Hid (peakM n xs = (amax (pwF xs n) 1440 : Nat) ∧ peakW n xs = pwF xs n (amax (pwF xs n) 1440)) := Lib.hid (by simp [peakM, peakW, hB])
  obtain ⟨h12, hs⟩ := mach_at hB
  have HS := Lib.hid hs
  have HL := Lib.hid (amax_lt (pwF xs n) 1440 (by omega))
  clear hs
  go_enter Try.func38, Try.ntmps38
  go_wp2_with (go_at_call 47; (with_reducible refine (iMachinesOk A n c xs _ hn hx).mono ?_); rintro _ w1 ⟨rfl, hb1⟩; rw [hB])
  have i1 : In w.heap.size w w1 := In.step (by (repeat (first | exact In.refl _ | assumption | apply In.alloc | apply In.drewN | apply In.drew | (refine In.step ?_ (by assumption))))) hb1
  refine (ipowersOf A n c xs _ h12 HS.out (hx.in_ (by (repeat (first | exact In.refl _ | assumption | apply In.alloc | apply In.drewN | apply In.drew | (refine In.step ?_ (by assumption))))))).mono ?_
  rintro _ w2 ⟨A2, c2, rfl, hown, hb2⟩
  have hr := reads_own_i hown
  have i2 : In w.heap.size w w2 := In.step (by (repeat (first | exact In.refl _ | assumption | apply In.alloc | apply In.drewN | apply In.drew | (refine In.step ?_ (by assumption))))) hb2
  have hlen := fL_len (pwF xs n) 1440
  rw [hlen] at hr ⊢
  have HG : Hid (gidx (fL (pwF xs n) 1440) 1440 = (amax (pwF xs n) 1440 : Nat)) := Lib.hid (by
    unfold gidx
    rw [if_neg (by omega), amax_congr (gF (fL (pwF xs n) 1440)) (pwF xs n) 1440 fun i hi => fL_at _ _ i hi])
  have HAT := Lib.hid (fL_at (pwF xs n) 1440)
  clear hlen hown hb2 hb1 i1
  generalize pwF xs n = f at *
  generalize fL f 1440 = zs at *
  obtain ⟨N, hN⟩ : ∃ N : Nat, 1440 = N := ⟨_, rfl⟩
  have HN := Lib.hid hN
  rw [hN] at HV HL HAT HG hr ⊢
  clear hN
  go_wp2_with fail
  refine (iGreatest A2 N c2 zs _ (by have := HN.out; unfold maxLen; omega) hr).mono ?_
  rintro _ w3 ⟨rfl, hb3⟩
  have i3 : In w.heap.size w w3 := i2.step hb3
  have h1 := HL.out
  have h2 := HAT.out (amax f N) h1
  rw [HG.out]
  obtain ⟨p, hp⟩ : ∃ p, amax f N = p := ⟨_, rfl⟩
  rw [hp] at h1 h2 HV ⊢
  obtain ⟨ad, rfl, hc⟩ := (hr.step hb3).2 p h1
  rw [h2] at hc
  have hpi : (p : Int) < N := by omega
  have hpn : p < N := h1
  obtain ⟨y, hy9⟩ : ∃ y, f p = y := ⟨_, rfl⟩
  rw [hy9] at hc HV
  clear hy9 h1 h2 hp hr hb3
  go_wp2
  go_quiet (fail)
  go_wp2
  have hv := HV.out
  exact bodyPost_ret (v := .tuple #[i64 p, i64 y]) (by simp [results, Try.results38, go_sem]) rfl (Val.mk' (by rw [hv.1, hv.2]) (by (repeat (first | exact In.refl _ | assumption | apply In.alloc | apply In.drewN | apply In.drew | (refine In.step ?_ (by assumption))))))
theorem iPeakPower (A : Option Addr) (n c : Nat) (xs : List MachineR) (w : World) (hn : n ≤ maxLen) (hx : ReadsMachine w A n xs) : Calls Try.prog 38 #[.slice A n c] w (Val (peakT n xs) w) := by
  have h := iPeakTup A n c xs w hn hx
  rw [← peakT_eq] at h
  exact h
set_option maxRecDepth 20000 in
theorem iOverTimes (A : Option Addr) (n c : Nat) (xs : List MachineR) (M : Int) (w : World) (hn : n ≤ maxLen) (hx : ReadsMachine w A n xs) : Calls Try.prog 41 #[.slice A n c, .int .i64 M] w (Val (i64 (overV n xs M)) w) := by
  cases hB : machB n xs
  · have HV : Hid (overV n xs M = -1) := Lib.hid (by simp [overV, hB])
    go_enter Try.func41, Try.ntmps41
    go_wp2_with (go_at_call 47; (with_reducible refine (iMachinesOk A n c xs _ hn hx).mono ?_); rintro _ w1 ⟨rfl, hb1⟩; rw [hB])
    go_ret
    exact Val.mk' (v_int HV.out.symm) (by (repeat (first | exact In.refl _ | assumption | apply In.alloc | apply In.drewN | apply In.drew | (refine In.step ?_ (by assumption)))))
  cases h1 : inB M 0 1000000
  · have HV : Hid (overV n xs M = -1) := Lib.hid (by simp [overV, h1])
    go_enter Try.func41, Try.ntmps41
    go_wp2_with (first | (go_at_call 47; (with_reducible refine (iMachinesOk A n c xs _ hn hx).mono ?_); rintro _ w1 ⟨rfl, hb1⟩; rw [hB]) | (go_at_call 50; (with_reducible refine (iInE h1 _).mono ?_); rintro e w' ⟨rfl, rfl⟩))
    go_ret
    exact Val.mk' (v_int HV.out.symm) (by (repeat (first | exact In.refl _ | assumption | apply In.alloc | apply In.drewN | apply In.drew | (refine In.step ?_ (by assumption)))))
  have HV : Hid (overV n xs M = ovr (pwF xs n) M 1440) := Lib.hid (by simp [overV, hB, h1])
  obtain ⟨h12, hs⟩ := mach_at hB
  have HS := Lib.hid hs
  clear hs
  go_enter Try.func41, Try.ntmps41
  go_wp2_with (first | (go_at_call 47; (with_reducible refine (iMachinesOk A n c xs _ hn hx).mono ?_); rintro _ w1 ⟨rfl, hb1⟩; rw [hB]) | (go_at_call 50; (with_reducible refine (iInE h1 _).mono ?_); rintro e w' ⟨rfl, rfl⟩))
  have i1 : In w.heap.size w w1 := In.step (by (repeat (first | exact In.refl _ | assumption | apply In.alloc | apply In.drewN | apply In.drew | (refine In.step ?_ (by assumption))))) hb1
  refine (ipowersOf A n c xs _ h12 HS.out (hx.in_ (by (repeat (first | exact In.refl _ | assumption | apply In.alloc | apply In.drewN | apply In.drew | (refine In.step ?_ (by assumption))))))).mono ?_
  rintro _ w2 ⟨A2, c2, rfl, hown, hb2⟩
  have hr := reads_own_i hown
  have i2 : In w.heap.size w w2 := In.step (by (repeat (first | exact In.refl _ | assumption | apply In.alloc | apply In.drewN | apply In.drew | (refine In.step ?_ (by assumption))))) hb2
  have hlen := fL_len (pwF xs n) 1440
  rw [hlen] at hr ⊢
  have HAT := Lib.hid (fL_at (pwF xs n) 1440)
  clear hlen hown
  have HSU := Lib.hid (ovr_succ (pwF xs n) M)
  have HIN := Lib.hid (ovr_in (pwF xs n) M)
  clear hb1 hb2 i1
  generalize pwF xs n = f at *
  generalize fL f 1440 = zs at *
  obtain ⟨N, hN⟩ : ∃ N : Nat, 1440 = N := ⟨_, rfl⟩
  have HN := Lib.hid hN
  rw [hN] at HV HAT hr ⊢
  clear hN
  have hNm : (N : Int) ≤ 100000 := by have := HN.out; omega
  go_wp2
  go_loopw [5, 19] (fun b i wr => ∃ k : Nat, k ≤ N ∧ i = .int .i64 k ∧ b = .int .i64 (ovr f M k) ∧ In w.heap.size w wr ∧ In w2.heap.size w2 wr) (fun _ i _ => N - (intOf i).toNat)
  case atStart => exact ⟨0, Nat.zero_le _, rfl, rfl, i2, In.refl _⟩
  case round =>
    clear i2
    obtain ⟨k, hk, rfl, rfl, hi, hj⟩ := hrel
    by_cases hlt : k < N
    · have hki : (k : Int) < N := by have := HN.out; omega
      have HSU1 := Lib.hid (HSU.out k)
      have hin := HIN.out k
      have hk9 : (k : Int) ≤ 1440 := by have := HN.out; omega
      obtain ⟨ad, rfl, hck⟩ := (hr.below hj.below (Nat.le_refl _)).2 k hlt; rw [HAT.out k hlt] at hck
      obtain ⟨x, hx9⟩ : ∃ x, f k = x := ⟨_, rfl⟩
      obtain ⟨y, hy9⟩ : ∃ y, ovr f M k = y := ⟨_, rfl⟩
      rw [hx9] at hck HSU1
      rw [hy9] at HSU1 hin ⊢
      clear hx9 hy9
      by_cases hxy : M < x
      · go_wp2
        go_roundw
        case rel => exact ⟨k + 1, by have := HN.out; omega, by go_num, v_int (by rw [HSU1.out, if_pos hxy]), by (repeat (first | exact In.refl _ | assumption | apply In.alloc | apply In.drewN | apply In.drew | (refine In.step ?_ (by assumption)))), by (repeat (first | exact In.refl _ | assumption | apply In.alloc | apply In.drewN | apply In.drew | (refine In.step ?_ (by assumption))))⟩
        case measure => have := HN.out; simp [intOf]; omega
      · go_wp2
        go_roundw
        case rel => exact ⟨k + 1, by have := HN.out; omega, by go_num, v_int (by rw [HSU1.out, if_neg (by omega)]), by (repeat (first | exact In.refl _ | assumption | apply In.alloc | apply In.drewN | apply In.drew | (refine In.step ?_ (by assumption)))), by (repeat (first | exact In.refl _ | assumption | apply In.alloc | apply In.drewN | apply In.drew | (refine In.step ?_ (by assumption))))⟩
        case measure => have := HN.out; simp [intOf]; omega
    · obtain rfl : N = k := by omega
      have hki : ¬ (N : Int) < N := by have := HN.out; omega
      go_wp2
      go_ret
      exact Val.mk' (v_int (by rw [HV.out])) (by (repeat (first | exact In.refl _ | assumption | apply In.alloc | apply In.drewN | apply In.drew | (refine In.step ?_ (by assumption)))))
end Go.Proofs.Ythndjpklfgcpmaa
