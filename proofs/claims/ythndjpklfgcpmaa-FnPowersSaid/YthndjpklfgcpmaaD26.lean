/- Chapter 26: PowerAt. -/
import Derived.Test.YthndjpklfgcpmaaC26
import Derived.Test.YthndjpklfgcpmaaWays
import Derived.Test.YthndjpklfgcpmaaOwnI
namespace Go.Proofs.Ythndjpklfgcpmaa
open Go.ChangeShapes Go.WideShapes Go.ChangeAt Go.RowKit
set_option linter.unusedVariables false
set_option linter.unusedSimpArgs false
set_option maxHeartbeats 2000000

def pwG (xs : List MachineR) (u : Int) (i : Nat) : Int := if (xs.getD i z26).f0 ≤ u ∧ u < (xs.getD i z26).f1 then (xs.getD i z26).f2 else 0
def pwF (xs : List MachineR) (k : Nat) (u : Nat) : Int := sumTo (pwG xs (u : Int)) k
def pwJ (xs : List MachineR) (k j : Nat) (u : Nat) : Int := if u < j ∧ (xs.getD k z26).f0 ≤ (u : Int) then pwF xs (k + 1) u else pwF xs k u
def powerV (n : Nat) (xs : List MachineR) (u : Int) : Int := if machB n xs && inB u 0 1439 then sumTo (pwG xs u) n else -1
theorem pwG_in {xs : List MachineR} {u : Int} {i : Nat} (h : maB (xs.getD i z26).f0 (xs.getD i z26).f1 (xs.getD i z26).f2 = true) : 0 ≤ pwG xs u i ∧ pwG xs u i ≤ 10000 := by
  have := ma_in h
  unfold pwG
  split <;> omega
theorem pwF_in {xs : List MachineR} {k u n : Nat} (hk : k ≤ n) (h : ∀ i, i < n → maB (xs.getD i z26).f0 (xs.getD i z26).f1 (xs.getD i z26).f2 = true) : 0 ≤ pwF xs k u ∧ pwF xs k u ≤ 10000 * (k : Int) := by
  have := sumTo_bd (pwG xs (u : Int)) 10000 k fun i hi => pwG_in (h i (by omega))
  unfold pwF
  omega
theorem pwJ_0 (xs : List MachineR) (k j u : Nat) (h : (j : Int) = (xs.getD k z26).f0) : pwJ xs k j u = pwF xs k u := by
  unfold pwJ; rw [if_neg (by omega)]
theorem pwJ_end (xs : List MachineR) (k j u : Nat) (h : (j : Int) = (xs.getD k z26).f1) : pwF xs (k + 1) u = pwJ xs k j u := by
  unfold pwJ
  split
  · rfl
  · rename_i hc
    unfold pwF
    rw [sumTo_succ]
    have : pwG xs (u : Int) k = 0 := by unfold pwG; rw [if_neg (by omega)]
    omega
theorem pwJ_at (xs : List MachineR) (k j : Nat) (h0 : (xs.getD k z26).f0 ≤ j) (h1 : (j : Int) < (xs.getD k z26).f1) : pwJ xs k (j + 1) j = pwF xs k j + (xs.getD k z26).f2 ∧ pwJ xs k j j = pwF xs k j := by
  unfold pwJ
  rw [if_pos (by omega), if_neg (by omega)]
  unfold pwF
  rw [sumTo_succ]
  have : pwG xs (j : Int) k = (xs.getD k z26).f2 := by unfold pwG; rw [if_pos (by omega)]
  omega
theorem pwJ_ne (xs : List MachineR) (k j u : Nat) (h : u ≠ j) : pwJ xs k (j + 1) u = pwJ xs k j u := by
  unfold pwJ
  by_cases h1 : u < j ∧ (xs.getD k z26).f0 ≤ (u : Int)
  · rw [if_pos h1, if_pos (by omega)]
  · rw [if_neg h1, if_neg (by omega)]
set_option maxRecDepth 20000 in
theorem sPowers (A : Option Addr) (n c : Nat) (xs : List MachineR) (w : World) (h12 : n ≤ 12) (hs : ∀ i, i < n → maB (xs.getD i z26).f0 (xs.getD i z26).f1 (xs.getD i z26).f2 = true) (hx : ReadsMachine w A n xs) :
    Calls Try.prog 66 #[.slice A n c] w (fun e w' => ∃ g, e = .returned (.slice (some ⟨g, 0, none⟩) 1440 1440) ∧ Ways w' g 1440 (pwF xs n) ∧ Below w.heap.size w w') := by
  obtain ⟨i0, hi0, hz0, hz1, hz2⟩ := info_parts infoN
  have HS := Lib.hid hs
  clear hs
  go_enter Try.func66, Try.ntmps66
  go_wp2_with (at_make; refine wpList_make_full _ rfl (.const (.int .i64 1440)) (.const (.int .i64 1440)) 22 rfl w.heap.size 3 i0 (.int .i64 0) 1 Try.underlying22 hi0 hz0 hz1 .i64 .i64 (1440 : Int) (1440 : Int) 1440 rfl rfl rfl rfl ?h2 ?h3 ?h4 ?_)
  case h2 => rw [hz2]; omega
  case h3 => unfold maxLen; omega
  case h4 => exact Nat.le_refl _
  intro w1 hown0 hgrow0
  have hb0 : Below w.heap.size w w1 := (Below.refl _ _).grown hgrow0 (Nat.le_refl _) (fun j hj => by cases hj)
  have hwa : Ways w1 w.heap.size 1440 (pwF xs 0) := (ways_made (by rw [toList_madeCells_one] at hown0; exact hown0)).congr (fun u hu => rfl)
  have i1 : In w.heap.size w w1 := ⟨hb0, hb0.size⟩
  clear hgrow0 hown0 hb0
  generalize hN : (1440 : Nat) = N at hwa ⊢
  have hN5 : (N : Int) = 1440 := by omega
  clear hN
  obtain ⟨g, hg⟩ : ∃ g, g = w.heap.size := ⟨_, rfl⟩
  have HGG := Lib.hid hg
  rw [← hg] at hwa ⊢
  clear hg
  go_wp2
  go_loopw [4] (fun i wr => ∃ k : Nat, k ≤ n ∧ i = .int .i64 k ∧ Ways wr g N (pwF xs k) ∧ In w.heap.size w wr) (fun i _ => n - (intOf i).toNat)
  case atStart => exact ⟨0, Nat.zero_le _, rfl, hwa, i1⟩
  case round =>
    clear hwa i1
    obtain ⟨k, hk, rfl, hwa, hi⟩ := hrel
    by_cases hlt : k < n
    · obtain ⟨w8, rfl⟩ : ∃ w8, w8 = wr := ⟨_, rfl⟩
      have hB := HS.out k hlt
      have H0 := Lib.hid (pwJ_0 xs k)
      have HE := Lib.hid (pwJ_end xs k)
      have HA := Lib.hid (pwJ_at xs k)
      have HNE := Lib.hid (pwJ_ne xs k)
      have HIN := Lib.hid (fun u => pwF_in (u := u) (Nat.le_of_lt hlt) HS.out)
      obtain ⟨a, rfl, hb0, hb1, hb2⟩ := hx.2 k hlt
      have HX0 := Lib.hid hb0
      have HX1 := Lib.hid hb1
      have HX2 := Lib.hid hb2
      have ha0 := cell_in hb0 hi
      clear hb0 hb1 hb2
      generalize xs.getD k z26 = x at *
      obtain ⟨x0, x1, x2⟩ := x
      simp only at ha0 HX0 HX1 HX2 hB H0 HE HA
      obtain ⟨b1, b2, b3, b4, b5, b6⟩ := ma_in hB
      clear hB
      obtain ⟨y, rfl⟩ : ∃ y : Nat, x0 = (y : Int) := ⟨x0.toNat, by omega⟩
      have hwj : Ways w8 g N (pwJ xs k y) := hwa.congr fun u _ => H0.out y u rfl
      clear hwa
      go_wp2
      go_loopw [5] (fun i wr2 => ∃ j : Nat, y ≤ j ∧ (j : Int) ≤ x1 ∧ i = .int .i64 j ∧ Ways wr2 g N (pwJ xs k j) ∧ In w.heap.size w wr2) (fun i _ => x1.toNat - (intOf i).toNat)
      case atStart => exact ⟨y, Nat.le_refl _, by omega, rfl, hwj, by (repeat (first | exact In.refl _ | assumption | apply In.alloc | apply In.drewN | apply In.drew | (refine In.step ?_ (by assumption))))⟩
      case round =>
        clear hwj
        obtain ⟨j, hj0, hj1, rfl, hwt, hi2⟩ := hrel
        have ha1 := cell_in HX1.out hi2
        have ha2 := cell_in HX2.out hi2
        by_cases hlt2 : (j : Int) < x1
        · have hjN : j < N := by omega
          have hck := hwt.cell j hjN
          have hfr := hwt.free j
          obtain ⟨e1, e2⟩ := HA.out j (by omega) hlt2
          rw [e2] at hck
          have E1 := Lib.hid e1
          have hbd := HIN.out j
          have HW := Lib.hid hwt
          clear hwt e1 e2
          generalize pwF xs k j = s at *
          go_wp2
          go_region
          go_wp2
          go_roundw
          case rel => exact ⟨j + 1, by omega, by omega, by go_num, (HW.out.set_ j _ _ E1.out (fun u hu => HNE.out j u hu) hjN).drew, (hi2.set_ (p := ⟨g, j, none⟩) (by have := HGG.out; show w.heap.size ≤ g; omega) _).drew⟩
          case measure => simp [intOf]; omega
        · have hwn : Ways wr g N (pwF xs (k + 1)) := hwt.congr fun u _ => HE.out j u (by omega)
          clear hwt
          go_wp2
          go_roundw
          case rel => exact ⟨k + 1, by omega, by go_num, hwn, by (repeat (first | exact In.refl _ | assumption | apply In.alloc | apply In.drewN | apply In.drew | (refine In.step ?_ (by assumption))))⟩
          case measure => simp [intOf]; omega
    · obtain rfl : k = n := by omega
      go_wp2
      go_ret
      obtain rfl : N = 1440 := by omega
      exact ⟨g, rfl, hwa, hi.below⟩
theorem irunsAt (a b c u : Int) (w : World) : Calls Try.prog 83 #[.agg #[.int .i64 a, .int .i64 b, .int .i64 c], .int .i64 u] w (Val (.bool (decide (a ≤ u ∧ u < b))) w) := by
  have q0 : Blk (w.alloc (.cells #[.int .i64 a, .int .i64 b, .int .i64 c] 58)) w.heap.size 58 #[.int .i64 a, .int .i64 b, .int .i64 c] := Blk.new w _ _
  have c0 := q0.cell 0
  have c1 := q0.cell 1
  clear q0
  by_cases h1 : a ≤ u <;> by_cases h2 : u < b
  all_goals
    go_enter Try.func83, Try.ntmps83
    go_wp2
    go_ret
    exact Val.mk' (v_bool (by simp [h1, h2] <;> omega)) (by (repeat (first | exact In.refl _ | assumption | apply In.alloc | apply In.drewN | apply In.drew | (refine In.step ?_ (by assumption)))))
theorem ipowerAt (A : Option Addr) (n c : Nat) (xs : List MachineR) (u : Int) (w : World) (h12 : n ≤ 12) (hs : ∀ i, i < n → maB (xs.getD i z26).f0 (xs.getD i z26).f1 (xs.getD i z26).f2 = true) (hx : ReadsMachine w A n xs) :
    Calls Try.prog 77 #[.slice A n c, .int .i64 u] w (Val (i64 (sumTo (pwG xs u) n)) w) := by
  have HS := Lib.hid hs
  clear hs
  go_enter Try.func77, Try.ntmps77
  go_wp2
  go_loopw [5, 10] (fun s i wr => ∃ k : Nat, k ≤ n ∧ i = .int .i64 k ∧ s = .int .i64 (sumTo (pwG xs u) k) ∧ In w.heap.size w wr) (fun _ i _ => n - (intOf i).toNat)
  case atStart => exact ⟨0, Nat.zero_le _, rfl, rfl, by (repeat (first | exact In.refl _ | assumption | apply In.alloc | apply In.drewN | apply In.drew | (refine In.step ?_ (by assumption))))⟩
  case round =>
    obtain ⟨k, hk, rfl, rfl, hi⟩ := hrel
    by_cases hlt : k < n
    · have HU := Lib.hid (sumTo_succ (pwG xs u) k)
      obtain ⟨d1, d2⟩ := sumTo_bd (pwG xs u) 10000 k fun i hi => pwG_in (HS.out i (by omega))
      have hB := HS.out k hlt
      have HG : Hid (pwG xs u k = if (xs.getD k z26).f0 ≤ u ∧ u < (xs.getD k z26).f1 then (xs.getD k z26).f2 else 0) := Lib.hid rfl
      obtain ⟨a, rfl, ha0, ha1, ha2⟩ := (hx.in_ hi).2 k hlt
      generalize xs.getD k z26 = x at *
      obtain ⟨x0, x1, x2⟩ := x
      simp only at ha0 ha1 ha2 HG hB
      obtain ⟨b1, b2, b3, b4, b5, b6⟩ := ma_in hB
      have q0 : Blk (wr.alloc (.cells #[.int .i64 x0, .int .i64 x1, .int .i64 x2] 58)) wr.heap.size 58 #[.int .i64 x0, .int .i64 x1, .int .i64 x2] := Blk.new wr _ _
      generalize sumTo (pwG xs u) k = s at *
      clear hB
      go_wp2_with fail
      refine (irunsAt x0 x1 x2 u _).mono ?_
      rintro _ w2 ⟨rfl, hb2⟩
      have k2 := q0.step hb2
      have c2 := k2.cell 2
      have i2 : In w.heap.size w w2 := In.step (by (repeat (first | exact In.refl _ | assumption | apply In.alloc | apply In.drewN | apply In.drew | (refine In.step ?_ (by assumption))))) hb2
      clear k2 q0 hb2 hi ha0 ha1 ha2
      by_cases hc : x0 ≤ u ∧ u < x1
      · have HN : Hid ((if x0 ≤ u ∧ u < x1 then x2 else 0) = x2) := Lib.hid (if_pos hc)
        rw [decide_eq_true hc]
        clear hc
        go_wp2
        go_roundw
        case rel => exact ⟨k + 1, by omega, by go_num, v_int (by rw [HU.out, HG.out, HN.out]), by (repeat (first | exact In.refl _ | assumption | apply In.alloc | apply In.drewN | apply In.drew | (refine In.step ?_ (by assumption))))⟩
        case measure => simp [intOf]; omega
      · have HN : Hid ((if x0 ≤ u ∧ u < x1 then x2 else 0) = 0) := Lib.hid (if_neg hc)
        rw [decide_eq_false hc]
        clear hc
        go_wp2
        go_roundw
        case rel => exact ⟨k + 1, by omega, by go_num, v_int (by rw [HU.out, HG.out, HN.out, Int.add_zero]), by (repeat (first | exact In.refl _ | assumption | apply In.alloc | apply In.drewN | apply In.drew | (refine In.step ?_ (by assumption))))⟩
        case measure => simp [intOf]; omega
    · obtain rfl : k = n := by omega
      go_wp2
      go_ret
      exact Val.mk' rfl (by (repeat (first | exact In.refl _ | assumption | apply In.alloc | apply In.drewN | apply In.drew | (refine In.step ?_ (by assumption)))))
theorem iPowerAt (A : Option Addr) (n c : Nat) (xs : List MachineR) (u : Int) (w : World) (hn : n ≤ maxLen) (hx : ReadsMachine w A n xs) : Calls Try.prog 45 #[.slice A n c, .int .i64 u] w (Val (i64 (powerV n xs u)) w) := by
  cases hB : machB n xs
  · have HV : Hid (powerV n xs u = -1) := Lib.hid (by simp [powerV, hB])
    go_enter Try.func45, Try.ntmps45
    go_wp2_with (go_at_call 47; (with_reducible refine (iMachinesOk A n c xs _ hn hx).mono ?_); rintro _ w1 ⟨rfl, hb1⟩; rw [hB])
    go_ret
    exact Val.mk' (v_int HV.out.symm) (by (repeat (first | exact In.refl _ | assumption | apply In.alloc | apply In.drewN | apply In.drew | (refine In.step ?_ (by assumption)))))
  cases h1 : inB u 0 1439
  · have HV : Hid (powerV n xs u = -1) := Lib.hid (by simp [powerV, h1])
    go_enter Try.func45, Try.ntmps45
    go_wp2_with (first | (go_at_call 47; (with_reducible refine (iMachinesOk A n c xs _ hn hx).mono ?_); rintro _ w1 ⟨rfl, hb1⟩; rw [hB]) | (go_at_call 76; (with_reducible refine (i26m _ _).mono ?_); rintro e w' ⟨rfl, rfl⟩; rw [h1]))
    go_ret
    exact Val.mk' (v_int HV.out.symm) (by (repeat (first | exact In.refl _ | assumption | apply In.alloc | apply In.drewN | apply In.drew | (refine In.step ?_ (by assumption)))))
  have HV : Hid (powerV n xs u = sumTo (pwG xs u) n) := Lib.hid (by simp [powerV, hB, h1])
  obtain ⟨h12, hs⟩ := mach_at hB
  have HS := Lib.hid hs
  clear hs
  obtain ⟨u1, u2⟩ := inB_tt h1
  obtain ⟨v, rfl⟩ : ∃ v : Nat, u = (v : Int) := ⟨u.toNat, by omega⟩
  go_enter Try.func45, Try.ntmps45
  go_wp2_with (first | (go_at_call 47; (with_reducible refine (iMachinesOk A n c xs _ hn hx).mono ?_); rintro _ w1 ⟨rfl, hb1⟩; rw [hB]) | (go_at_call 76; (with_reducible refine (i26m _ _).mono ?_); rintro e w' ⟨rfl, rfl⟩; rw [h1]))
  refine (ipowerAt A n c xs v _ h12 HS.out (hx.in_ (by first | (repeat (first | exact In.refl _ | assumption | apply In.alloc | apply In.drewN | apply In.drew | (refine In.step ?_ (by assumption)))) | exact In.step (In.refl _) hb1))).mono ?_
  rintro _ w2 ⟨rfl, hb2⟩
  go_wp2
  go_ret
  exact Val.mk' (v_int HV.out.symm) (by (repeat (first | exact In.refl _ | assumption | apply In.alloc | apply In.drewN | apply In.drew | (refine In.step ?_ (by assumption)))))
end Go.Proofs.Ythndjpklfgcpmaa
