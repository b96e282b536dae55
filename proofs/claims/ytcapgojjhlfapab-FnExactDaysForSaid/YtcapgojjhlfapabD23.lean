/- Chapter 23: the order. -/
import Derived.Test.YtcapgojjhlfapabC23
import Derived.Test.YtcapgojjhlfapabAll
import Derived.Test.YtcapgojjhlfapabOwnI
import Derived.Test.YtcapgojjhlfapabOwnC
import Derived.Test.YtcapgojjhlfapabApp
import Derived.Test.YtcapgojjhlfapabIntI
import Derived.BigQuiet
import Derived.Deep.QuietTactic
namespace Go.Proofs.Ytcapgojjhlfapab
open Go.ChangeShapes Go.WideShapes Go.ChangeAt Go.RowKit
set_option linter.unusedVariables false
set_option linter.unusedSimpArgs false
set_option maxHeartbeats 2000000

theorem iCont (A : Option Addr) (n c : Nat) (xs : List Int) (v : Int) (w : World) (hn : n ≤ maxLen) (hx : ReadsI w A n xs) :
    Calls Try.prog 37 #[.slice A n c, .int .i64 v] w (Same (.bool (hasN xs v)) w) := by
  have h := hx.1
  subst h
  exact iContains A _ c xs v w hn hx
theorem sHas (A : Option Addr) (n c : Nat) (xs : List Int) (v : Int) (w : World) (hn : n ≤ maxLen) (hx : ReadsI w A n xs) :
    Calls Try.prog 32 #[.slice A n c, .int .i64 v] w (Same (.bool (hasN xs v)) w) := by
  have hl := hx.1
  have HL := Lib.hid hl
  clear hl
  unfold maxLen at hn
  go_enter Try.func32, Try.ntmps32
  go_wp2
  go_loop [5] (fun i => ∃ k : Nat, k ≤ n ∧ i = .int .i64 k ∧ (∀ i, i < k → xs.getD i 0 ≠ v)) (fun i => n - (intOf i).toNat)
  case atStart => exact ⟨0, Nat.zero_le _, rfl, fun i hi => absurd hi (Nat.not_lt_zero _)⟩
  case round =>
    obtain ⟨k, hk, rfl, ho⟩ := hrel
    have HO := Lib.hid ho
    clear ho
    by_cases hlt : k < n
    · obtain ⟨a, rfl, ha⟩ := hx.2 k hlt
      generalize hx0 : xs.getD k 0 = x at ha
      have HX := Lib.hid hx0
      clear hx0
      by_cases h1 : x = v
      · have HT : Hid (hasN xs v = true) := Lib.hid (hasN_iff.2 ⟨k, by rw [HL.out]; exact hlt, by rw [HX.out]; exact h1⟩)
        go_wp2
        go_ret
        exact ⟨ret_bool HT.out.symm, rfl⟩
      · have HN := Lib.hid h1
        go_wp2
        go_round
        case rel => exact ⟨k + 1, by omega, by go_num, fun i hi => by
            by_cases e : i = k
            · subst e; rw [HX.out]; exact HN.out
            · exact HO.out i (by omega)⟩
        case measure => simp [intOf]; omega
    · obtain rfl : k = n := by omega
      have HF : Hid (hasN xs v = false) := Lib.hid (hasN_f.2 fun i hi => HO.out i (by rw [HL.out] at hi; exact hi))
      go_wp2
      go_ret
      exact ⟨ret_bool HF.out.symm, rfl⟩
theorem iRis (A0 : Option Addr) (n c0 : Nat) (A : Option Addr) (m c : Nat) (ts : List Int) (w : World) (hn : n ≤ 1000) (hm : m ≤ maxLen) (hx : ReadsI w A m ts) : Calls Try.prog 36 #[.slice A0 n c0, .slice A m c] w (Val (.bool (risB ts 0 ((n : Int) - 1) m)) w) := by
  have HE := Lib.hid (risB_eq ts 0 ((n : Int) - 1) m)
  go_enter Try.func36, Try.ntmps36
  go_wp2_with fail
  refine (iAsc A m c ts _ hm hx).mono ?_
  rintro _ w1 ⟨rfl, hb1⟩
  cases h1 : ascB ts m
  · go_wp2
    go_ret
    exact Val.mk' (v_bool (by rw [HE.out, h1]; rfl)) (by (repeat (first | exact In.refl _ | assumption | apply In.alloc | apply In.drewN | apply In.drew | (refine In.step ?_ (by assumption)))))
  go_wp2_with fail
  refine (iAll A m c ts 0 ((n : Int) - 1) _ hm (hx.below hb1 (Nat.le_refl _))).mono ?_
  rintro _ _ ⟨rfl, rfl⟩
  go_wp2
  go_ret
  exact Val.mk' (v_bool (by rw [HE.out, h1]; rfl)) (by (repeat (first | exact In.refl _ | assumption | apply In.alloc | apply In.drewN | apply In.drew | (refine In.step ?_ (by assumption)))))
theorem iNeeds (A : Option Addr) (n c : Nat) (xs : List SkillR) (k : Nat) (B : Option Addr) (m d : Nat) (out : List Int) (w : World) (hk : k < n) (hn : n ≤ 1000) (hm : m ≤ maxLen) (hx : ReadsSkill w A n xs) (ho : ReadsI w B m out) :
    Calls Try.prog 43 #[.slice A n c, .int .i64 (k : Nat), .slice B m d] w (Same (.bool (needsB xs out k)) w) := by
  obtain ⟨a, rfl, C, c', ⟨h0, h1⟩, g1, g2, hr⟩ := hx.2 k hk
  have HV : Hid (needsB xs out k = allOk (fun i => hasN out ((needs xs k).getD i 0)) (needs xs k).length) := Lib.hid rfl
  unfold needs at HV
  generalize (xs.getD k z23).f0 = ns at *
  have hnm : ns.length ≤ maxLen := Nat.le_trans g1 g2
  have HM := Lib.hid hm
  have HO := Lib.hid ho
  have HR := Lib.hid hr
  clear hm ho g1 g2 h1 hr hx
  unfold maxLen at hnm
  go_enter Try.func43, Try.ntmps43
  go_wp2
  go_loop [15] (fun i => ∃ t : Nat, t ≤ ns.length ∧ i = .int .i64 t ∧ (∀ i, i < t → hasN out (ns.getD i 0) = true)) (fun i => ns.length - (intOf i).toNat)
  case atStart => exact ⟨0, Nat.zero_le _, rfl, fun i hi => absurd hi (Nat.not_lt_zero _)⟩
  case round =>
    obtain ⟨t, ht, rfl, hq⟩ := hrel
    have HQ := Lib.hid hq
    clear hq
    by_cases hlt : t < ns.length
    · obtain ⟨b, rfl, hb⟩ := HR.out.2 t hlt
      have HF : Hid (hasN out (ns.getD t 0) = false → needsB xs out k = false) := Lib.hid fun h => by rw [HV.out]; exact allOk_f _ _ t hlt h
      generalize hx0 : ns.getD t 0 = x at *
      have HX := Lib.hid hx0
      clear hx0
      go_wp2_with fail
      refine (iCont B m d out x _ HM.out HO.out).mono ?_
      rintro _ _ ⟨rfl, rfl⟩
      cases h1 : hasN out x
      · have HG := Lib.hid (HF.out h1)
        go_wp2
        go_ret
        exact ⟨ret_bool HG.out.symm, rfl⟩
      · go_wp2
        go_round
        case rel => exact ⟨t + 1, by omega, by go_num, fun i hi => by
            by_cases e : i = t
            · subst e; rw [HX.out]; exact h1
            · exact HQ.out i (by omega)⟩
        case measure => simp [intOf]; omega
    · obtain rfl : t = ns.length := by omega
      go_wp2
      go_ret
      exact ⟨ret_bool (by rw [HV.out]; exact (allOk_t _ _ HQ.out).symm), rfl⟩
theorem iOpen (A : Option Addr) (n c : Nat) (xs : List SkillR) (k : Nat) (B : Option Addr) (m d : Nat) (out : List Int) (w : World) (hk : k < n) (hn : n ≤ 1000) (hm : m ≤ maxLen) (hx : ReadsSkill w A n xs) (ho : ReadsI w B m out) :
    Calls Try.prog 41 #[.slice A n c, .int .i64 (k : Nat), .slice B m d] w (Same (.bool (openB xs out k)) w) := by
  have HV : Hid (openB xs out k = (!hasN out k && needsB xs out k)) := Lib.hid rfl
  have HN := Lib.hid (iNeeds A n c xs k B m d out w hk hn hm hx ho)
  go_enter Try.func41, Try.ntmps41
  go_wp2_with fail
  refine (iCont B m d out (k : Nat) _ hm ho).mono ?_
  rintro _ _ ⟨rfl, rfl⟩
  cases h1 : hasN out k
  · go_wp2_with fail
    refine HN.out.mono ?_
    rintro _ _ ⟨rfl, rfl⟩
    go_wp2
    go_ret
    exact ⟨ret_bool (by rw [HV.out, h1]; rfl), rfl⟩
  · go_wp2
    go_ret
    exact ⟨ret_bool (by rw [HV.out, h1]; rfl), rfl⟩
set_option maxHeartbeats 4000000 in
theorem iOrder (A : Option Addr) (n c : Nat) (xs : List SkillR) (w : World) (hn : n ≤ 1000) (hx : ReadsSkill w A n xs) : Calls Try.prog 38 #[.slice A n c] w (RowB (ordV n xs) w) := by
  obtain ⟨i0, hi0, hz0, hz1, hz2⟩ := info_parts infoI
  have hown0 : w.ownsRow w.heap.size 3 1 (.slice none 0 0) 0 (iv []) := ⟨rfl, .inl ⟨rfl, rfl⟩⟩
  have HXX := Lib.hid hx
  clear hx
  go_enter Try.func38, Try.ntmps38
  go_wp2
  go_loopw [3, 7] (fun v i wr => ∃ j : Nat, j ≤ n ∧ i = .int .i64 j ∧ wr.ownsRow w.heap.size 3 1 v (ordT n xs j).length (iv (ordT n xs j)) ∧ In w.heap.size w wr) (fun _ i _ => n - (intOf i).toNat)
  case atStart => exact ⟨0, Nat.zero_le _, rfl, hown0, In.refl w⟩
  case round =>
    clear hown0
    obtain ⟨j, hj, rfl, hown, hi⟩ := hrel
    obtain ⟨A1, c1, rfl⟩ := own_shape_i hown
    by_cases hlt : j < n
    · have hll := ordT_len n xs j
      have HSt : Hid (∀ k : Nat, nxt n xs (ordT n xs j) = k → ordT n xs (j + 1) = ordT n xs j ++ [(k : Int)]) := Lib.hid fun k h => ordT_t h (by omega)
      have HSf : Hid (nxt n xs (ordT n xs j) < 0 → ordT n xs (j + 1) = ordT n xs j) := Lib.hid fun h => ordT_f h
      generalize ordT n xs j = L at *
      generalize hm : L.length = m at hown hll
      have HM := Lib.hid hm
      clear hm
      obtain ⟨w8, rfl⟩ : ∃ w8, w8 = wr := ⟨_, rfl⟩
      have HR := Lib.hid (reads_own_i hown)
      have HXW := Lib.hid (HXX.out.in_ hi)
      have HOWN := Lib.hid hown
      clear hown
      go_wp2
      go_loopw [3, 11] (fun v i wr => ∃ k : Nat, k ≤ n ∧ i = .int .i64 k ∧ (∀ t, t < k → openB xs L t = false) ∧ v = .slice A1 m c1 ∧ wr = w8) (fun _ i _ => n - (intOf i).toNat)
      case atStart => exact ⟨0, Nat.zero_le _, rfl, fun t ht => absurd ht (Nat.not_lt_zero _), rfl, rfl⟩
      case round =>
        obtain ⟨k, hk, rfl, ho, rfl, rfl⟩ := hrel
        have HO := Lib.hid ho
        clear ho
        by_cases hkn : k < n
        · have HC := Lib.hid (iOpen A n c xs k A1 m c1 L wr hkn hn (by unfold maxLen; omega) HXW.out HR.out)
          go_wp2_with fail
          refine HC.out.mono ?_
          rintro _ _ ⟨rfl, rfl⟩
          cases h1 : openB xs L k
          · go_wp2
            go_roundw
            case rel => exact ⟨k + 1, by omega, by go_num, fun t ht => by
                by_cases e : t = k
                · subst e; exact h1
                · exact HO.out t (by omega), rfl, by first | rfl | trivial⟩
            case measure => simp [intOf]; omega
          · have HS := Lib.hid (HSt.out k (fstP_at hkn HO.out h1))
            have hown := HOWN.out
            have F9 : Hid (∀ u ∈ (#[Value.int .i64 ((k : Int))] : Array Value).toList, u.oneCell' = true) := Lib.hid (by intro u hu; simp at hu; subst hu; rfl)
            have f92 : m + 1 ≤ maxLen := by unfold maxLen; omega
            have f93 : (m + 1) * 8 ≤ 140737488355328 := by omega
            have hB9 : w.heap.size ≤ wr.heap.size := In.size (B := w.heap.size) (a := w) (by (repeat (first | exact In.refl _ | assumption | apply In.alloc | apply In.drewN | apply In.drew | (refine In.step ?_ (by assumption)))))
            go_wp2_with (first | (go_at_call 30; refine (sIn _ _ _ _).mono ?_; rintro e w' ⟨rfl, rfl⟩) | (go_at_call 35; refine (iIn _ _ _ _).mono ?_; rintro e w' ⟨rfl, rfl⟩) | (at_builtin; refine wpList_app wr rfl (.tmp 18) (.tmp 20) 29 rfl w.heap.size 3 i0 (.int .i64 0) 1 8 Try.underlying29 hi0 hz0 hz1 hz2 rfl Nat.one_pos (.slice A1 m c1) (m) (iv (L)) rfl hown 1 #[.int .i64 ((k : Int))] rfl rfl F9.out f92 f93 hB9 ?_; intro v9 w9 hown9 hbw9) | go_in | (go_end0; simp only []; go_at_K))
            have hi9 : In w.heap.size w w9 := In.wide hi hbw9
            have hown2 : w9.ownsRow w.heap.size 3 1 v9 (ordT n xs (j + 1)).length (iv (ordT n xs (j + 1))) := by rw [HS.out, iv_app, List.length_append, HM.out]; exact hown9
            clear hown9 hbw9 hown f92 f93 hB9
            go_wp2
            go_roundw
            case rel => exact ⟨j + 1, by omega, by go_num, hown2, hi9⟩
            case measure => simp [intOf]; omega
        · obtain rfl : k = n := by omega
          have HS := Lib.hid (HSf.out (fstP_neg.2 HO.out))
          go_wp2
          go_roundw
          case rel => exact ⟨j + 1, by omega, by go_num, by rw [HS.out, HM.out]; exact HOWN.out, hi⟩
          case measure => simp [intOf]; omega
    · obtain rfl : j = n := by omega
      go_wp2
      go_ret
      exact rowB_of rfl hown hi.below
end Go.Proofs.Ytcapgojjhlfapab
