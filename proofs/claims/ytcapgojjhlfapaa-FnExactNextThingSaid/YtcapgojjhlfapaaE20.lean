/- Chapter 20: NextThing, the program. -/
import Derived.Test.YtcapgojjhlfapaaD20
import Derived.Test.YtcapgojjhlfapaaMapI
namespace Go.Proofs.Ytcapgojjhlfapaa
open Go.ChangeShapes Go.WideShapes Go.ChangeAt Go.RowKit Go.Maps
set_option linter.unusedVariables false
set_option linter.unusedSimpArgs false
set_option maxHeartbeats 2000000

theorem In.growr {B r : Nat} {a w w' : World} (h : In B a w) (g : w.grownBy w' (some r)) (hr : B ≤ r) : In B a w' := ⟨h.below.grown g h.size (fun j hj => by cases hj; exact hr), Nat.le_trans h.size g.size⟩
theorem MapF.run {w : World} {b n : Nat} {f : Int → Option Int} (h : MapF w b n f) (k : Int) (hk : (Lit.int .i64 k).wf = true) : (Instr.lookup 58 (.map (some b)) (.int .i64 k) false).run Try.prog w = .ok (.int .i64 ((f k).getD 0)) w := by
  obtain ⟨D, h, r1, r2⟩ := h
  obtain ⟨c, hrun, hat, hwc⟩ := h.lookup_int lawI Try.underlying58 Try.underlying3 (zeroI _) (key := .int .i64 k) (keyOf_int_mk Try.underlying3 hk)
  rw [r2] at hat
  cases hf : f k with
  | none =>
    rw [hf] at hat
    simp only at hat
    injection hat with hat
    injection hat with _ hat
    subst hat
    exact hrun
  | some v =>
    rw [hf] at hat
    simp only at hat
    injection hat with hat
    injection hat with _ hat
    subst hat
    exact hrun
def hasP (bs : List Int) (v : Int) : Nat → Bool
  | 0 => false
  | j + 1 => hasP bs v j || (bs.getD j 0 == v)
theorem hasP_iff {bs : List Int} {v : Int} {j : Nat} : hasP bs v j = true ↔ ∃ i, i < j ∧ bs.getD i 0 = v := by
  induction j with
  | zero => simp [hasP]
  | succ j ih =>
    rw [hasP, Bool.or_eq_true, ih, beq_iff_eq]
    constructor
    · rintro (⟨i, hi, hv⟩ | hv)
      · exact ⟨i, by omega, hv⟩
      · exact ⟨j, by omega, hv⟩
    · rintro ⟨i, hi, hv⟩
      by_cases e : i = j
      · subst e; exact .inr hv
      · exact .inl ⟨i, by omega, hv⟩
theorem hasP_all (bs : List Int) (v : Int) : hasP bs v bs.length = hasN bs v := by
  rw [Bool.eq_iff_iff, hasP_iff, hasN_iff]
theorem hasP_new {bs : List Int} (h : risB bs 1 9 bs.length = true) {j : Nat} (hj : j < bs.length) : hasP bs (bs.getD j 0) j = false := by
  cases hh : hasP bs (bs.getD j 0) j
  · rfl
  · obtain ⟨i, hi, he⟩ := hasP_iff.1 hh
    have := risB_lt h j i hi hj
    omega
/-- one basket's share after its first j things -/
def plus (ts bs : List Int) (j : Nat) (x : Int) : Int := if hasN ts x then 0 else if hasP bs x j then 1 else 0
theorem cW_t {xs : List BasketR} {ts : List Int} {m k : Nat} (x : Int) (h : hasI xs ts m k = true) : cW xs ts m x (k + 1) = cW xs ts m x k + plus ts (xs.getD k z20).f0 (xs.getD k z20).f0.length x := by
  unfold cW plus
  rw [hasP_all]
  cases h1 : hasN ts x
  · simp only [Bool.false_eq_true, if_false]
    rw [cntTo, show bothI xs ts m x k = hasN (xs.getD k z20).f0 x by rw [bothI, h]; rfl]
    cases hasN (xs.getD k z20).f0 x <;> simp
  · simp
theorem cW_f {xs : List BasketR} {ts : List Int} {m k : Nat} (x : Int) (h : hasI xs ts m k = false) : cW xs ts m x (k + 1) = cW xs ts m x k := by
  unfold cW
  rw [cntTo, show bothI xs ts m x k = false by rw [bothI, h]; rfl]
  simp
theorem plus_zero (ts bs : List Int) (x : Int) : plus ts bs 0 x = 0 := by simp [plus, hasP]
theorem plus_t {ts bs : List Int} {j : Nat} (h : hasN ts (bs.getD j 0) = true) (x : Int) : plus ts bs (j + 1) x = plus ts bs j x := by
  unfold plus
  cases h1 : hasN ts x
  · have hne : ¬ bs.getD j 0 = x := fun e => by rw [e, h1] at h; cases h
    simp only [hasP, Bool.or_eq_true, beq_iff_eq, hne, or_false]
  · rfl
theorem plus_f {ts bs : List Int} {j : Nat} (h : hasN ts (bs.getD j 0) = false) (hn : hasP bs (bs.getD j 0) j = false) (x : Int) : plus ts bs (j + 1) x = if x = bs.getD j 0 then 1 else plus ts bs j x := by
  unfold plus
  by_cases e : x = bs.getD j 0
  · subst e
    rw [if_pos rfl, h]
    simp [hasP]
  · rw [if_neg e]
    cases h1 : hasN ts x
    · simp only [hasP, Bool.or_eq_true, beq_iff_eq, show ¬ bs.getD j 0 = x from fun h => e h.symm, or_false]
    · rfl
theorem wf_i {x : Int} (h : -9223372036854775808 ≤ x ∧ x ≤ 9223372036854775807) : (Lit.int .i64 x).wf = true := WalkArith.wf_i64 h
/-- the numbers beside ts -/
def Cnts (n : Nat) (xs : List BasketR) (m : Nat) (ts : List Int) (w : World) (e : Ending) (w' : World) : Prop := ∃ b f, e = .returned (.map (some b)) ∧ MapF w' b (10 * n) f ∧ (∀ x, (f x).getD 0 = cW xs ts m x n) ∧ w.heap.size ≤ b ∧ Below w.heap.size w w'
theorem iContN (A : Option Addr) (n c : Nat) (xs : List Int) (v : Int) (w : World) (hn : n ≤ maxLen) (hx : ReadsI w A n xs) :
    Calls Try.prog 51 #[.slice A n c, .int .i64 v] w (Same (.bool (hasN xs v)) w) := by
  have h := hx.1
  subst h
  exact iContains A _ c xs v w hn hx
set_option maxHeartbeats 4000000 in
theorem icounts (A : Option Addr) (n c : Nat) (xs : List BasketR) (B : Option Addr) (m d : Nat) (ts : List Int) (w : World) (hn : n ≤ 30) (hok : ∀ i, i < n → okB xs i = true) (hx : ReadsBasket w A n xs) (hm : m ≤ maxLen) (ht : ReadsI w B m ts) : Calls Try.prog 48 #[.slice A n c, .slice B m d] w (Cnts n xs m ts w) := by
  have hmm := @run_makeMap Try.prog
  have HOK := Lib.hid hok
  have HXX := Lib.hid hx
  have HTT := Lib.hid ht
  clear hok hx ht
  go_enter Try.func48, Try.ntmps48
  go_wp2
  clear hmm
  go_loopw [13] (fun i wr => ∃ (k : Nat) (f : Int → Option Int), k ≤ n ∧ i = .int .i64 k ∧ MapF wr w.heap.size (10 * k) f ∧ (∀ x, (f x).getD 0 = cW xs ts m x k) ∧ In w.heap.size w wr) (fun i _ => n - (intOf i).toNat)
  case atStart => exact ⟨0, _, Nat.zero_le _, rfl, MapF.made w, fun x => by simp [cW, cntTo], by (repeat (first | exact In.refl _ | assumption | apply In.alloc | apply In.drewN | apply In.drew | (refine In.step ?_ (by assumption))))⟩
  case round =>
    obtain ⟨k, f, hk, rfl, hM, hf, hi⟩ := hrel
    by_cases hlt : k < n
    · obtain ⟨a, rfl, C, c', h0w, g1, g2, hrw⟩ := HXX.out.2 k hlt
      have h0 := cell_in h0w hi
      have hr := hrw.below hi.below (Nat.le_refl _)
      have hrs := HOK.out k hlt
      have HI : Hid (hasI xs ts m k = hasAllB (xs.getD k z20).f0 ts m) := Lib.hid rfl
      have HCT := Lib.hid (fun x (h : hasI xs ts m k = true) => cW_t (xs := xs) (ts := ts) (m := m) (k := k) x h)
      have HCF := Lib.hid (fun x (h : hasI xs ts m k = false) => cW_f (xs := xs) (ts := ts) (m := m) (k := k) x h)
      have HCI := Lib.hid (fun x => cW_in xs ts m x k)
      have HCN := Lib.hid (cntTo_in (hasI xs ts m) k)
      unfold okB at hrs
      generalize (xs.getD k z20).f0 = bx at *
      have hm2 : bx.length ≤ maxLen := Nat.le_trans g1 g2
      have hl9 := risB_len hrs (by omega)
      have HRS := Lib.hid hrs
      have HRW := Lib.hid hrw
      have HRI := Lib.hid (risB_in hrs)
      have kb : Blk (wr.alloc (.cells #[.slice C bx.length c'] 48)) wr.heap.size 48 #[.slice C bx.length c'] := Blk.new wr _ _
      have HA := Lib.hid (fun o => iHasAll C bx.length c' bx B m d ts (wr.alloc o) hm2 hm (hr.alloc o) ((HTT.out.below hi.below (Nat.le_refl _)).alloc o))
      have hM1 := hM.alloc (.cells #[.slice C bx.length c'] 48)
      have hr1 := hr.alloc (.cells #[.slice C bx.length c'] 48)
      have hi1 := hi.alloc (.cells #[.slice C bx.length c'] 48)
      have HF := Lib.hid hf
      clear g1 g2 hrs hf hM hi hr hrw h0w
      go_wp2_with fail
      refine (HA.out _).mono ?_
      rintro _ w2 ⟨rfl, hb2⟩
      have hM2 := hM1.step hb2
      have hr2 := hr1.step hb2
      have hi2 := hi1.step hb2
      have cb := (kb.step hb2).cell 0
      simp at cb
      clear hM1 hr1 hi1 kb hb2 HA
      cases h1 : hasAllB bx ts m
      · go_wp2
        go_roundw
        case rel => exact ⟨k + 1, f, by omega, by go_num, hM2.mono (by omega), fun x => by rw [HCF.out x (by rw [HI.out]; exact h1)]; exact HF.out x, hi2⟩
        case measure => simp [intOf]; omega
      have HCT2 := Lib.hid (fun x => HCT.out x (by rw [HI.out]; exact h1))
      have HR2 := Lib.hid hr2
      have HT2 := Lib.hid (HTT.out.below hi2.below (Nat.le_refl _))
      have hM0 : MapF w2 w.heap.size (10 * k + 0) f := hM2
      clear HCT HCF HI h1 hr2 hM2
      go_wp2
      clear cb
      go_loopw [24] (fun i wr => ∃ (j : Nat) (f : Int → Option Int), j ≤ bx.length ∧ i = .int .i64 j ∧ MapF wr w.heap.size (10 * k + j) f ∧ (∀ x, (f x).getD 0 = cW xs ts m x k + plus ts bx j x) ∧ In w.heap.size w wr) (fun i _ => bx.length - (intOf i).toNat)
      case atStart => exact ⟨0, f, Nat.zero_le _, rfl, hM0, fun x => by rw [plus_zero, HF.out]; omega, hi2⟩
      case round =>
        clear hM0 hi2
        obtain ⟨j, g, hj, rfl, hM, hg, hi⟩ := hrel
        by_cases hl : j < bx.length
        · obtain ⟨b, rfl, hb⟩ := (HRW.out.below hi.below (Nat.le_refl _)).2 j hl
          have hy := HRI.out j hl
          have hnew := hasP_new HRS.out hl
          have HPT := Lib.hid (plus_t (ts := ts) (bs := bx) (j := j))
          have HPF : Hid (hasN ts (bx.getD j 0) = false → ∀ x, plus ts bx (j + 1) x = if x = bx.getD j 0 then 1 else plus ts bx j x) := Lib.hid fun h x => plus_f h hnew x
          have HZ : Hid (hasN ts (bx.getD j 0) = false → plus ts bx j (bx.getD j 0) = 0) := Lib.hid fun h => by rw [plus, h, hnew]; rfl
          have HG := Lib.hid hg
          have HTW := Lib.hid (HTT.out.below hi.below (Nat.le_refl _))
          generalize bx.getD j 0 = y at *
          clear hg hnew
          go_wp2_with fail
          refine (iContN B m d ts y _ hm HTW.out).mono ?_
          rintro _ _ ⟨rfl, rfl⟩
          cases h1 : hasN ts y
          · have HG0 : Hid ((g y).getD 0 = cW xs ts m y k) := Lib.hid (by rw [HG.out, HZ.out h1]; omega)
            have HPF2 := Lib.hid (HPF.out h1)
            have hc1 := HCI.out y
            have hc2 := HCN.out
            have HCY : Hid (∀ x, x = y → cW xs ts m x k = cW xs ts m y k) := Lib.hid fun x h => by rw [h]
            generalize cW xs ts m y k = cy at *
            have wfy := Lib.hid (wf_i (x := y) (by omega))
            have wfc := Lib.hid (wf_i (x := cy + 1) (by omega))
            have hN9 : 10 * k + j < maxLen := by unfold maxLen; omega
            clear h1 HPT HPF HZ
            go_wp2_with (first | (at_lookup; refine wpList_lookF _ rfl (.tmp 32) (.tmp 33) rfl w.heap.size (10 * k + j) g rfl hM y rfl wfy.out ?_; rw [HG0.out]) | (at_mapUpdate; refine wpList_storeF _ rfl (.tmp 32) (.tmp 33) (.tmp 35) (Or.inl rfl) w.heap.size (10 * k + j) g rfl hM hN9 y (cy + 1) rfl rfl wfy.out wfc.out ?_; intro w3 hM3 hg3))
            have i3 : In w.heap.size w w3 := In.growr hi hg3 (Nat.le_refl _)
            clear hg3 hM
            go_wp2
            go_roundw
            case rel => exact ⟨j + 1, upd g y (cy + 1), by omega, by go_num, hM3, fun x => by
                rw [HPF2.out]
                by_cases e : x = y
                · rw [upd, if_pos e, if_pos e, HCY.out x e]; rfl
                · rw [upd, if_neg e, if_neg e]; exact HG.out x, i3⟩
            case measure => simp [intOf]; omega
          · have HPT2 := Lib.hid (HPT.out h1)
            go_wp2
            go_roundw
            case rel => exact ⟨j + 1, g, by omega, by go_num, hM.mono (by omega), fun x => by rw [HPT2.out]; exact HG.out x, hi⟩
            case measure => simp [intOf]; omega
        · obtain rfl : j = bx.length := by omega
          have HG := Lib.hid hg
          clear hg
          go_wp2
          go_roundw
          case rel => exact ⟨k + 1, g, by omega, by go_num, hM.mono (by omega), fun x => by rw [HCT2.out]; exact HG.out x, hi⟩
          case measure => simp [intOf]; omega
    · obtain rfl : k = n := by omega
      go_wp2
      go_ret
      exact ⟨_, f, rfl, hM, hf, Nat.le_refl _, hi.below⟩
set_option maxHeartbeats 4000000 in
theorem iNextThing (A : Option Addr) (n c : Nat) (xs : List BasketR) (B : Option Addr) (m d : Nat) (ts : List Int) (w : World) (hn : n ≤ maxLen) (hx : ReadsBasket w A n xs) (hm : m ≤ maxLen) (ht : ReadsI w B m ts) : Calls Try.prog 31 #[.slice A n c, .slice B m d] w (Val (.int .i64 (nextV n xs m ts)) w) := by
  have HV : Hid (nextV n xs m ts = if cntV n xs m ts ≤ 0 then -1 else (nb xs ts m n 9).1) := Lib.hid rfl
  have hC : cntV n xs m ts = if bsB n xs && risB ts 1 9 m then cntTo (hasI xs ts m) n else -1 := rfl
  by_cases h0 : cntV n xs m ts < 0
  · have HE := Lib.hid (HV.out.trans (if_pos (by omega)))
    clear hC
    go_enter Try.func31, Try.ntmps31
    go_wp2_with fail
    refine (iCountWith A n c xs B m d ts _ hn hx hm ht).mono ?_
    rintro _ w1 ⟨rfl, hb1⟩
    generalize cntV n xs m ts = V at *
    go_wp2
    go_ret
    exact Val.mk' (v_int HE.out.symm) (by (repeat (first | exact In.refl _ | assumption | apply In.alloc | apply In.drewN | apply In.drew | (refine In.step ?_ (by assumption)))))
  have hok : (bsB n xs && risB ts 1 9 m) = true := by
    cases hh : (bsB n xs && risB ts 1 9 m)
    · rw [hh] at hC; simp at hC; omega
    · rfl
  rw [hok] at hC
  simp only [if_true] at hC
  rw [Bool.and_eq_true] at hok
  have hn30 := (bsB_at hok.1).1
  have HOK := Lib.hid (bsB_at hok.1).2
  have HE : Hid ((nb xs ts m n 9).1 = nextV n xs m ts) := Lib.hid (by
    rw [HV.out]
    by_cases h : cntV n xs m ts ≤ 0
    · rw [if_pos h, nb_zero (by omega)]
    · rw [if_neg h])
  have HXX := Lib.hid hx
  clear hC hok HV
  go_enter Try.func31, Try.ntmps31
  go_wp2_with fail
  refine (iCountWith A n c xs B m d ts _ hn hx hm ht).mono ?_
  rintro _ w1 ⟨rfl, hb1⟩
  have i1 : In w.heap.size w w1 := by (repeat (first | exact In.refl _ | assumption | apply In.alloc | apply In.drewN | apply In.drew | (refine In.step ?_ (by assumption))))
  generalize cntV n xs m ts = V at *
  go_wp2_with fail
  refine (icounts A n c xs B m d ts _ hn30 HOK.out (HXX.out.in_ i1) hm (ht.below i1.below (Nat.le_refl _))).mono ?_
  rintro _ w2 ⟨b, f, rfl, hM, hf, hbb, hb2⟩
  have i2 := i1.step hb2
  have HF := Lib.hid hf
  clear hx ht hb1 hb2 i1 hf hbb
  go_wp2
  go_loopw [6, 7, 8] (fun p q i wr => ∃ t : Nat, t ≤ 9 ∧ i = .int .i64 ((t + 1 : Nat) : Int) ∧ p = .int .i64 (nb xs ts m n t).1 ∧ q = .int .i64 (nb xs ts m n t).2 ∧ MapF wr b (10 * n) f ∧ In w.heap.size w wr) (fun _ _ i _ => 10 - (intOf i).toNat)
  case atStart => exact ⟨0, by omega, rfl, rfl, rfl, hM, i2⟩
  case round =>
    clear i2 hM
    obtain ⟨t, h10, rfl, rfl, rfl, hM, hi⟩ := hrel
    have hq := nb_in xs ts m n t
    have HST : Hid ((nb xs ts m n t).2 < cW xs ts m ((t + 1 : Nat) : Int) n → nb xs ts m n (t + 1) = (((t + 1 : Nat) : Int), cW xs ts m ((t + 1 : Nat) : Int) n)) := Lib.hid fun h => by rw [nb, if_pos h]
    have HSF : Hid (¬ (nb xs ts m n t).2 < cW xs ts m ((t + 1 : Nat) : Int) n → nb xs ts m n (t + 1) = nb xs ts m n t) := Lib.hid fun h => by rw [nb, if_neg h]
    have HFT : Hid ((f ((t + 1 : Nat) : Int)).getD 0 = cW xs ts m ((t + 1 : Nat) : Int) n) := Lib.hid (HF.out _)
    have hc1 := cW_in xs ts m ((t + 1 : Nat) : Int) n
    have hc2 := cntTo_in (hasI xs ts m) n
    by_cases hlt : t < 9
    · generalize cW xs ts m ((t + 1 : Nat) : Int) n = cy at *
      generalize cntTo (hasI xs ts m) n = cz at *
      generalize hT : t + 1 = T at *
      have HT := Lib.hid hT
      generalize nb xs ts m n t = r at *
      obtain ⟨r1, r2⟩ := r
      simp only at hq HST HSF
      have hTb : 1 ≤ T ∧ T ≤ 9 := by omega
      have wfT := Lib.hid (wf_i (x := (T : Int)) (by omega))
      clear hT hlt
      by_cases hgt : r2 < cy
      · have HG := Lib.hid (HST.out hgt)
        clear HST HSF
        go_wp2_with (at_lookup; refine wpList_lookF _ rfl (.tmp 20) (.tmp 21) rfl b (10 * n) f rfl hM (T : Int) rfl wfT.out ?_; rw [HFT.out])
        have HRUN : Hid (∀ W, MapF W b (10 * n) f → (Instr.lookup 58 (.map (some b)) (.int .i64 (T : Nat)) false).run Try.prog W = .ok (.int .i64 cy) W) := Lib.hid fun W h => by rw [← HFT.out]; exact h.run _ wfT.out
        refine wp_region_S (C := (fun w' => In w.heap.size w w' ∧ MapF w' b (10 * n) f ∧ (Instr.lookup 58 (.map (some b)) (.int .i64 (T : Nat)) false).run Try.prog w' = .ok (.int .i64 cy) w')) (by kernel_rfl) (by kernel_rfl) ?_ ?_
        · exact ⟨hi.drew, hM.drew, HRUN.out _ hM.drew⟩
        repeat (first | go_big_quiet_skip | (go_big_quiet_want; first | (refine quiet_ex ?_; apply Exists.intro; refine ⟨fun W hW => ?_, ?_⟩; (· (obtain ⟨i1, m1, e1⟩ := hW; go_simp; (first | done | with_reducible rfl | rfl))); simp only [Act.put, List.setIfInBounds_toArray, List.set_cons_zero, List.set_cons_succ]; go_big_quiet_on) | (refine quiet_ex ?_; apply Exists.intro; refine ⟨fun W hW => ?_, ?_⟩; (· (go_simp; first | (fail))); simp only [Act.put, List.setIfInBounds_toArray, List.set_cons_zero, List.set_cons_succ]; go_big_quiet_on)))
        refine wpQuiet_nil ?_
        rintro w' ⟨i1, m1, e1⟩
        go_wp2
        go_roundw
        case rel => exact ⟨t + 1, by have := HT.out; omega, by rw [HT.out]; go_num, by rw [HT.out, HG.out], by rw [HT.out, HG.out], m1, i1⟩
        case measure => simp [intOf]; omega
      · have HG := Lib.hid (HSF.out (by omega))
        have hle : cy ≤ r2 := by omega
        clear HST HSF hgt
        go_wp2_with (at_lookup; refine wpList_lookF _ rfl (.tmp 20) (.tmp 21) rfl b (10 * n) f rfl hM (T : Int) rfl wfT.out ?_; rw [HFT.out])
        go_roundw
        case rel => exact ⟨t + 1, by have := HT.out; omega, by rw [HT.out]; go_num, by rw [HT.out, HG.out], by rw [HT.out, HG.out], hM, hi⟩
        case measure => simp [intOf]; omega
    · obtain rfl : t = 9 := by omega
      go_wp2
      go_ret
      exact Val.mk' (v_int HE.out) (by (repeat (first | exact In.refl _ | assumption | apply In.alloc | apply In.drewN | apply In.drew | (refine In.step ?_ (by assumption)))))
end Go.Proofs.Ytcapgojjhlfapaa
