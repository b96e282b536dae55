/- Chapter 32: LongFirst of the program and of the model. -/
import Derived.Test.YthadanmiomeehabFall
import Derived.Test.YthadanmiomeehabHol
import Derived.Test.YthadanmiomeehabC32
import Derived.Test.YthadanmiomeehabIn
import Derived.IntWalk
namespace Go.Proofs.Ythadanmiomeehab
open Go.ChangeShapes Go.WideShapes Go.ChangeAt Go.RowKit
set_option linter.unusedVariables false
set_option linter.unusedSimpArgs false
set_option maxHeartbeats 2000000

theorem ilong1 (A : Option Addr) (n c gb : Nat) (xs : List Int) (hn : n ≤ 1000) (x y : Int) (w : World) (h1 : 0 ≤ x) (h2 : x < n) (h3 : 0 ≤ y) (h4 : y < n) (hb : w.cell? ⟨gb, 0, none⟩ = some (.slice A n c)) (hx : ReadsI w A n xs) :
    Calls Try.prog 51 #[.int .i64 x, .int .i64 y, .pointer (some ⟨gb, 0, none⟩)] w (Val (.int .i64 (cmpV (xs.getD y.toNat 0) (xs.getD x.toNat 0))) w) := by
  obtain ⟨i, rfl⟩ : ∃ i : Nat, x = i := ⟨x.toNat, by omega⟩
  obtain ⟨k, rfl⟩ : ∃ k : Nat, y = k := ⟨y.toNat, by omega⟩
  have hi : i < n := by omega
  have hk : k < n := by omega
  simp only [Int.toNat_natCast]
  obtain ⟨a, rfl, ha⟩ := hx.2 i hi
  obtain ⟨b, hab, hc⟩ := hx.2 k hk
  injection hab with hab
  subst hab
  generalize xs.getD i 0 = p at *
  generalize xs.getD k 0 = q at *
  have HC := Lib.hid (fun W => iCmp q p W)
  clear h1 h2 h3 h4 hx
  go_enter Try.func51, Try.ntmps51
  go_wp2
  go_quiet ((go_at_call 33; exact (HC.out _).mono (by rintro e w2 ⟨rfl, rfl⟩; exact ⟨rfl, _, rfl⟩)))
  go_wp2
  go_ret
  exact Val.mk' rfl (by (repeat (first | exact In.refl _ | assumption | apply In.alloc | apply In.drewN | apply In.drew | (refine In.step ?_ (by assumption)))))
def LongFirstL (n : Nat) (xs : List Int) (st : Int) : List Int := if lenB n xs st then fallL xs n else []
theorem LongFirstL_len (n : Nat) (xs : List Int) (st : Int) : (LongFirstL n xs st).length ≤ 12 := by
  unfold LongFirstL
  split
  · rename_i h
    rw [fallL, srtL_len]; exact (len_at h).1
  · simp
theorem iLongFirst (A : Option Addr) (n c : Nat) (xs : List Int) (st : Int) (w : World) (hn : n ≤ maxLen) (hx : ReadsI w A n xs) : Calls Try.prog 28 #[.slice A n c, .int .i64 st] w (RowB (LongFirstL n xs st) w) := by
  have hm : n ≤ maxLen := hn
  unfold maxLen at hn
  cases h0 : lenB n xs st
  · have HV : Hid (LongFirstL n xs st = []) := Lib.hid (by simp [LongFirstL, h0])
    go_enter Try.func28, Try.ntmps28
    go_wp2_with fail
    refine (iLengthsOk A n c xs st _ hm (by (with_reducible (repeat (first | assumption | apply ReadsI.drewN | apply ReadsI.drew | apply ReadsI.alloc))))).mono ?_
    rintro _ w1 ⟨rfl, hb1⟩
    replace hb1 := same_below hb1
    rw [h0]
    go_wp2
    go_ret
    rw [HV.out]
    exact rowB_nil _ _ (by (repeat (first | exact In.refl _ | assumption | apply In.alloc | apply In.drewN | apply In.drew | (refine In.step ?_ (by assumption)))))
  · have h8 : n ≤ 12 := (len_at h0).1
    have HV : Hid (LongFirstL n xs st = fallL xs n) := Lib.hid (by simp [LongFirstL, h0])
    have k0 : Blk (w.alloc (.cells #[.slice A n c] 22)) w.heap.size 22 #[.slice A n c] := Blk.new w _ _
    go_enter Try.func28, Try.ntmps28
    go_wp2_with fail
    refine (iLengthsOk A n c xs st _ hm (by (with_reducible (repeat (first | assumption | apply ReadsI.drewN | apply ReadsI.drew | apply ReadsI.alloc))))).mono ?_
    rintro _ w1 ⟨rfl, hb1⟩
    replace hb1 := same_below hb1
    rw [h0]
    have i1 : In w.heap.size w w1 := In.step (by (repeat (first | exact In.refl _ | assumption | apply In.alloc | apply In.drewN | apply In.drew | (refine In.step ?_ (by assumption))))) hb1
    have k1 := k0.step hb1
    have hc1 := k1.cell 0
    have HI := Lib.hid (iIndices 51 (.pointer (some ⟨w.heap.size, 0, none⟩)) (fallV xs) n w1 (by omega) (fun _ _ => by kernel_rfl) (fun x y w' p1 p2 p3 p4 p5 => ilong1 A n c w.heap.size xs (by omega) x y w' p1 p2 p3 p4 ((k1.step p5.below).cell 0) (hx.below (i1.trans p5).below (Nat.le_refl _))))
    clear hb1 k0 k1 hx
    go_wp2_with fail
    refine HI.out.mono ?_
    rintro _ w2 ⟨g, rfl, ho, hg, hb2⟩
    have HR : Hid (RowB (LongFirstL n xs st) w (.returned (.slice (some ⟨g, 0, none⟩) (srtL (ltOf (fallV xs)) n).length (srtL (ltOf (fallV xs)) n).length)) w2) := Lib.hid (by
      rw [HV.out]
      exact rowB_of rfl (own_row ho (Nat.le_trans i1.size hg)) (i1.step hb2).below)
    rw [srtL_len] at HR ⊢
    clear ho HI hc1
    go_wp2
    go_ret
    exact HR.out
theorem sLongFirst (A : Option Addr) (n c : Nat) (xs : List Int) (st : Int) (w : World) (hn : n ≤ maxLen) (hx : ReadsI w A n xs) : Calls Try.prog 27 #[.slice A n c, .int .i64 st] w (RowB (LongFirstL n xs st) w) := by
  obtain ⟨i0, hi0, hz0, hz1, hz2⟩ := info_parts infoI
  have hm : n ≤ maxLen := hn
  unfold maxLen at hn
  cases h0 : lenB n xs st
  · have HV : Hid (LongFirstL n xs st = []) := Lib.hid (by simp [LongFirstL, h0])
    rw [HV.out]
    have HCA : Hid (∀ W, ReadsI W A n xs → Calls Try.prog 45 #[.slice A n c, .int .i64 st] W (Same (.bool false) W)) := Lib.hid (fun W h => by rw [← h0]; exact (sLengthsOk A n c xs st W hm h))
    have hown := own_lit w 3 #[] 0 w.heap.size rfl (Nat.le_refl _) (by unfold maxLen; omega)
    go_enter Try.func27, Try.ntmps27
    go_wp2
    go_loopw [5, 6] (fun v i wr => i = .int .i64 0 ∧ wr.ownsRow w.heap.size 3 1 v 0 (iv []) ∧ In w.heap.size w wr) (fun _ _ _ => 0)
    case atStart => exact ⟨rfl, hown, by (repeat (first | exact In.refl _ | assumption | apply In.alloc | apply In.drewN | apply In.drew | (refine In.step ?_ (by assumption))))⟩
    case round =>
      clear hown
      obtain ⟨rfl, hown, hi⟩ := hrel
      obtain ⟨A1, c1, rfl⟩ := own_shape_i hown
      have HO : Hid (RowB [] w (.returned (.slice A1 0 c1)) wr) := Lib.hid (rowB_of rfl hown hi.below)
      have hxr := hx.below hi.below (Nat.le_refl _)
      have HC1 := Lib.hid (HCA.out _ hxr)
      clear hown hxr
      by_cases hlt : 0 < n
      · have hd : decide ((0 : Int) < (n : Int)) = true := by simp; omega
        go_wp2_with (refine HC1.out.mono ?_; rintro e w' ⟨rfl, rfl⟩)
        go_ret
        exact HO.out
      · obtain rfl : n = 0 := by omega
        go_wp2_with (refine HC1.out.mono ?_; rintro e w' ⟨rfl, rfl⟩)
        go_ret
        exact HO.out
  have h8 : n ≤ 19 := Nat.le_trans ((len_at h0).1) (by decide)
  have HV : Hid (LongFirstL n xs st = fallL xs n) := Lib.hid (by simp [LongFirstL, h0])
  rw [HV.out]
  clear HV
  have HCA : Hid (∀ W, ReadsI W A n xs → Calls Try.prog 45 #[.slice A n c, .int .i64 st] W (Same (.bool true) W)) := Lib.hid (fun W h => by rw [← h0]; exact (sLengthsOk A n c xs st W hm h))
  clear h0
  have HX := Lib.hid hx
  clear hx
  have hown := own_lit w 3 #[] 0 w.heap.size rfl (Nat.le_refl _) (by unfold maxLen; omega)
  go_enter Try.func27, Try.ntmps27
  go_wp2
  go_loopw [5, 6] (fun v i wr => ∃ k : Nat, k ≤ n ∧ i = .int .i64 k ∧ wr.ownsRow w.heap.size 3 1 v k (iv (srtL (ltOf (fallV xs)) k)) ∧ In w.heap.size w wr) (fun _ i _ => n - (intOf i).toNat)
  case atStart => exact ⟨0, Nat.zero_le _, rfl, hown, by (repeat (first | exact In.refl _ | assumption | apply In.alloc | apply In.drewN | apply In.drew | (refine In.step ?_ (by assumption))))⟩
  case round =>
    clear hown
    obtain ⟨k, hk, rfl, hown, hi⟩ := hrel
    obtain ⟨A1, c1, rfl⟩ := own_shape_i hown
    have HC1 := Lib.hid (HCA.out _ (HX.out.below hi.below (Nat.le_refl _)))
    by_cases hlt : k < n
    · have HR := Lib.hid (fun u hu => srtF_in (ltOf (fallV xs)) k u hu)
      have HLT := Lib.hid (fall_lt xs k)
      have HST := Lib.hid (hL_start (ltOf (fallV xs)) k)
      have HSU := Lib.hid (srtL_succ (ltOf (fallV xs)) k)
      generalize hL0 : srtL (ltOf (fallV xs)) k = L0 at hown HST
      clear hL0
      generalize srtF (ltOf (fallV xs)) k = S at *
      have F9 : Hid (∀ u ∈ (#[Value.int .i64 ((k : Int))] : Array Value).toList, u.oneCell' = true) := Lib.hid (by intro u hu; simp at hu; subst hu; rfl)
      have f92 : k + 1 ≤ maxLen := by unfold maxLen; omega
      have f93 : (k + 1) * 8 ≤ 140737488355328 := by omega
      have hB9 : w.heap.size ≤ wr.heap.size := In.size (B := w.heap.size) (a := w) (by (repeat (first | exact In.refl _ | assumption | apply In.alloc | apply In.drewN | apply In.drew | (refine In.step ?_ (by assumption)))))
      go_wp2_with (first | (go_at_call 46; refine (sIn _ _ _ _).mono ?_; rintro e w' ⟨rfl, rfl⟩) | (go_at_call 56; refine (iIn _ _ _ _).mono ?_; rintro e w' ⟨rfl, rfl⟩) | (refine HC1.out.mono ?_; rintro e w' ⟨rfl, rfl⟩) | (at_builtin; refine wpList_app wr rfl (.tmp 22) (.tmp 24) 22 rfl w.heap.size 3 i0 (.int .i64 0) 1 8 Try.underlying22 hi0 hz0 hz1 hz2 rfl Nat.one_pos (.slice A1 k c1) (k) (iv (L0)) rfl hown 1 #[.int .i64 ((k : Int))] rfl rfl F9.out f92 f93 hB9 ?_; intro v9 w9 hown9 hbw9) | go_in | (go_end0; simp only []; go_at_K))
      have hi9 : In w.heap.size w w9 := In.wide hi hbw9
      rw [show iv L0 ++ (#[Value.int .i64 (k : Int)] : Array Value).toList = iv (hL S k k) by rw [← HST.out, iv_app]; rfl] at hown9
      obtain ⟨g, cap, rfl, hgw, hglt⟩ := hown9.form (by omega)
      clear hown hi HC1 hbw9 hB9 HST
      go_wp2
      go_loopw [7] (fun a wr2 => ∃ j : Nat, j ≤ k ∧ a = .int .i64 j ∧ psn (ltOf (fallV xs)) k S k = psn (ltOf (fallV xs)) k S j ∧ wr2.ownsRow w.heap.size 3 1 (.slice (some ⟨g, 0, none⟩) (k + 1) cap) (k + 1) (iv (hL S k j)) ∧ In w.heap.size w wr2) (fun a _ => (intOf a).toNat)
      case atStart => exact ⟨k, Nat.le_refl _, rfl, rfl, hown9, hi9⟩
      case round =>
        clear hown9 hi9
        obtain ⟨j, hj, rfl, hp, hown, hi⟩ := hrel
        have HP := Lib.hid hp
        clear hp
        obtain ⟨y0, hy0⟩ := hL_any S k j j hj
        have hjc := hown.cellAt j (by omega)
        rw [hy0] at hjc
        have hjf := hown.frozenAt j
        have hst := fun q => (own_step hown (below_drewN (Below.refl _ _) q)).stored j (.int .i64 (k : Int))
        have i2 : ∀ q, In w.heap.size w ((wr.drewN q).setCell ⟨g, j, none⟩ (.int .i64 (k : Int))) := fun q => (hi.drewN q).set_ (p := ⟨g, j, none⟩) hgw _
        clear hy0
        have hj1 : j < k + 1 := by omega
        by_cases hj0 : j = 0
        · subst hj0
          have HE : Hid (∀ q, ((wr.drewN q).setCell ⟨g, 0, none⟩ (.int .i64 (k : Int))).ownsRow w.heap.size 3 1 (.slice (some ⟨g, 0, none⟩) (k + 1) cap) (k + 1) (iv (srtL (ltOf (fallV xs)) (k + 1)))) := Lib.hid (fun q => by
            have h := (hst q).1
            rw [← iv_set, HSU.out 0 HP.out hj] at h
            exact h)
          clear hown hst
          go_wp2
          go_quiet (fail)
          go_wp2
          go_roundw
          case rel => exact ⟨k + 1, by omega, by go_num, HE.out _, i2 _⟩
          case measure => simp [intOf]; omega
        · obtain ⟨t, hJ⟩ : ∃ t, j = t + 1 := ⟨j - 1, by omega⟩
          have HJ := Lib.hid hJ
          have htj : t < j := by omega
          have htk : t < k + 1 := by omega
          have hw64 : IntKind.i64.wrap ((j : Int) - 1) = t := by rw [show (j : Int) - 1 = t by omega]; exact IntWalk.i64_in _ (by omega)
          have hw65 : wrap64 ((j : Int) - 1) = t := by rw [show (j : Int) - 1 = t by omega]; exact w64 (by omega)
          have hpos2 : 0 < j := by omega
          have htc := hown.cellAt t (by omega)
          rw [hL_at S k j t htj hj] at htc
          have HPL := Lib.hid (psn_lo (lt := ltOf (fallV xs)) (x := k) (S := S) hJ)
          have HPH := Lib.hid (psn_hi (lt := ltOf (fallV xs)) (x := k) (S := S) hJ)
          have HSET : Hid (∀ q, ((wr.drewN q).setCell ⟨g, j, none⟩ (.int .i64 (S t))).ownsRow w.heap.size 3 1 (.slice (some ⟨g, 0, none⟩) (k + 1) cap) (k + 1) (iv (hL S k t))) := Lib.hid (fun q => by
            have h := ((own_step hown (below_drewN (Below.refl _ _) q)).stored j (.int .i64 (S t))).1
            subst hJ
            rw [← iv_set, hL_set S k t hj] at h
            exact h)
          have i3 : ∀ q, In w.heap.size w ((wr.drewN q).setCell ⟨g, j, none⟩ (.int .i64 (S t))) := fun q => (hi.drewN q).set_ (p := ⟨g, j, none⟩) hgw _
          have HLS := HLT.out (S t)
          rw [Int.toNat_natCast] at HLS
          have hr := HR.out t (by omega)
          have HHX := HX.out.below hi.below (Nat.le_refl _)
          obtain ⟨y, hy⟩ : ∃ y : Nat, S t = y := ⟨(S t).toNat, by omega⟩
          have hyn : y < n := by omega
          simp only [hy] at HSET i3
          rw [hy] at htc HLS HPL HPH
          rw [hy] at hr
          clear hJ hy
          obtain ⟨a, rfl, ha⟩ := HHX.2 k hlt
          obtain ⟨b, hab, hb⟩ := HHX.2 y hyn
          injection hab with hab
          subst hab
          rw [Int.toNat_natCast] at HLS
          obtain ⟨p, hp⟩ : ∃ p, xs.getD k 0 = p := ⟨_, rfl⟩
          obtain ⟨q, hq⟩ : ∃ q, xs.getD y 0 = q := ⟨_, rfl⟩
          rw [hp] at ha HLS
          rw [hq] at hb HLS
          clear HHX hp hq
          by_cases hqp : q < p
          · have hd : decide (q < p) = true := by simpa using hqp
            have HP2 := Lib.hid (HP.out.trans (HPL.out (by rw [HLS]; exact hd)))
            clear HLS hown hst i2
            go_wp2
            go_quiet (fail)
            go_wp2
            go_roundw
            case rel => exact ⟨t, by omega, by go_num, HP2.out, HSET.out _, i3 _⟩
            case measure => simp [intOf]; omega
          · have hd : decide (q < p) = false := by simpa using hqp
            have HP2 := Lib.hid (HP.out.trans (HPH.out (by rw [HLS]; exact hd)))
            have HE : Hid (∀ q, ((wr.drewN q).setCell ⟨g, j, none⟩ (.int .i64 (k : Int))).ownsRow w.heap.size 3 1 (.slice (some ⟨g, 0, none⟩) (k + 1) cap) (k + 1) (iv (srtL (ltOf (fallV xs)) (k + 1)))) := Lib.hid (fun q => by
              have h := (hst q).1
              rw [← iv_set, HSU.out j HP2.out hj] at h
              exact h)
            clear HLS hown hst i3
            go_wp2
            go_quiet (fail)
            go_wp2
            go_roundw
            case rel => exact ⟨k + 1, by omega, by go_num, HE.out _, i2 _⟩
            case measure => simp [intOf]; omega
    · obtain rfl : k = n := by omega
      have HO : Hid (RowB (fallL xs k) w (.returned (.slice A1 k c1)) wr) := Lib.hid (rowB_of (srtL_len _ _) hown hi.below)
      clear hown hi
      go_wp2_with (refine HC1.out.mono ?_; rintro e w' ⟨rfl, rfl⟩)
      go_ret
      exact HO.out
end Go.Proofs.Ythadanmiomeehab
