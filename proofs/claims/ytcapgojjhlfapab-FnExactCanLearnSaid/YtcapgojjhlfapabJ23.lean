/- Chapter 23: CanLearn. -/
import Derived.Test.YtcapgojjhlfapabI23
namespace Go.Proofs.Ytcapgojjhlfapab
open Go.ChangeShapes Go.WideShapes Go.ChangeAt Go.RowKit
set_option linter.unusedVariables false
set_option linter.unusedSimpArgs false
set_option maxHeartbeats 2000000

set_option maxHeartbeats 4000000 in
theorem iCanLearn (A : Option Addr) (n c : Nat) (xs : List SkillR) (B : Option Addr) (m d : Nat) (ts : List Int) (w : World) (hn : n ≤ maxLen) (hx : ReadsSkill w A n xs) (hm : m ≤ maxLen) (ht : ReadsI w B m ts) : Calls Try.prog 16 #[.slice A n c, .slice B m d] w (RowB (CanLearnL n xs m ts) w) := by
  obtain ⟨i0, hi0, hz0, hz1, hz2⟩ := info_parts infoI
  have HV : Hid (CanLearnL n xs m ts = if knB n xs m ts then idxTo (openB xs ts) n else []) := Lib.hid rfl
  go_enter Try.func16, Try.ntmps16
  go_wp2_with fail
  refine (iKnown A n c xs B m d ts _ hn hx hm ht).mono ?_
  rintro _ w1 ⟨rfl, hb1⟩
  cases h1 : knB n xs m ts
  · have HE : Hid (CanLearnL n xs m ts = []) := Lib.hid (by rw [HV.out, h1]; rfl)
    go_wp2
    go_ret
    rw [HE.out]
    exact rowB_nil w w1 (by (repeat (first | exact In.refl _ | assumption | apply In.alloc | apply In.drewN | apply In.drew | (refine In.step ?_ (by assumption)))))
  have HE : Hid (CanLearnL n xs m ts = idxTo (openB xs ts) n) := Lib.hid (by rw [HV.out, h1]; rfl)
  have hkn := h1
  simp only [knB, Bool.and_eq_true] at hkn
  have hn12 := (skOk_at hkn.1).1
  have hI1 : In w.heap.size w w1 := by (repeat (first | exact In.refl _ | assumption | apply In.alloc | apply In.drewN | apply In.drew | (refine In.step ?_ (by assumption))))
  have hown0 : w1.ownsRow w.heap.size 3 1 (.slice none 0 0) 0 (iv []) := ⟨rfl, .inl ⟨rfl, rfl⟩⟩
  have HXX := Lib.hid hx
  have HTT := Lib.hid ht
  clear hkn hb1 h1 HV hx ht
  go_wp2
  go_loopw [5, 13] (fun v i wr => ∃ k : Nat, k ≤ n ∧ i = .int .i64 k ∧ wr.ownsRow w.heap.size 3 1 v (idxTo (openB xs ts) k).length (iv (idxTo (openB xs ts) k)) ∧ In w.heap.size w wr) (fun _ i _ => n - (intOf i).toNat)
  case atStart => exact ⟨0, Nat.zero_le _, rfl, hown0, hI1⟩
  case round =>
    clear hown0 hI1
    obtain ⟨k, hk, rfl, hown, hi⟩ := hrel
    obtain ⟨A1, c1, rfl⟩ := own_shape_i hown
    by_cases hlt : k < n
    · have hll := idxTo_len (openB xs ts) k
      have HSt : Hid (openB xs ts k = true → idxTo (openB xs ts) (k + 1) = idxTo (openB xs ts) k ++ [(k : Int)]) := Lib.hid fun h => idxTo_t h
      have HSf : Hid (openB xs ts k = false → idxTo (openB xs ts) (k + 1) = idxTo (openB xs ts) k) := Lib.hid fun h => idxTo_f h
      generalize idxTo (openB xs ts) k = L at *
      generalize hmm : L.length = m9 at hown hll
      have HM := Lib.hid hmm
      clear hmm
      have HC := Lib.hid (iOpen A n c xs k B m d ts wr hlt (by omega) hm (HXX.out.in_ hi) (HTT.out.below hi.below (Nat.le_refl _)))
      go_wp2_with fail
      refine HC.out.mono ?_
      rintro _ _ ⟨rfl, rfl⟩
      clear HC
      cases h1 : openB xs ts k
      · have HS := Lib.hid (HSf.out h1)
        go_wp2
        go_roundw
        case rel => exact ⟨k + 1, by omega, by go_num, by rw [HS.out, HM.out]; exact hown, hi⟩
        case measure => simp [intOf]; omega
      · have HS := Lib.hid (HSt.out h1)
        clear h1
        have F9 : Hid (∀ u ∈ (#[Value.int .i64 ((k : Int))] : Array Value).toList, u.oneCell' = true) := Lib.hid (by intro u hu; simp at hu; subst hu; rfl)
        have f92 : m9 + 1 ≤ maxLen := by unfold maxLen; omega
        have f93 : (m9 + 1) * 8 ≤ 140737488355328 := by omega
        have hB9 : w.heap.size ≤ wr.heap.size := In.size (B := w.heap.size) (a := w) (by (repeat (first | exact In.refl _ | assumption | apply In.alloc | apply In.drewN | apply In.drew | (refine In.step ?_ (by assumption)))))
        go_wp2_with (first | (go_at_call 30; refine (sIn _ _ _ _).mono ?_; rintro e w' ⟨rfl, rfl⟩) | (go_at_call 35; refine (iIn _ _ _ _).mono ?_; rintro e w' ⟨rfl, rfl⟩) | (at_builtin; refine wpList_app wr rfl (.tmp 20) (.tmp 22) 29 rfl w.heap.size 3 i0 (.int .i64 0) 1 8 Try.underlying29 hi0 hz0 hz1 hz2 rfl Nat.one_pos (.slice A1 m9 c1) (m9) (iv (L)) rfl hown 1 #[.int .i64 ((k : Int))] rfl rfl F9.out f92 f93 hB9 ?_; intro v9 w9 hown9 hbw9) | go_in | (go_end0; simp only []; go_at_K))
        have hi9 : In w.heap.size w w9 := In.wide hi hbw9
        have hown2 : w9.ownsRow w.heap.size 3 1 v9 (idxTo (openB xs ts) (k + 1)).length (iv (idxTo (openB xs ts) (k + 1))) := by rw [HS.out, iv_app, List.length_append, HM.out]; exact hown9
        clear hown9 hbw9 hown f92 f93 hB9
        go_wp2
        go_roundw
        case rel => exact ⟨k + 1, by omega, by go_num, hown2, hi9⟩
        case measure => simp [intOf]; omega
    · obtain rfl : k = n := by omega
      go_wp2
      go_ret
      rw [HE.out]
      exact rowB_of rfl hown hi.below

set_option maxHeartbeats 4000000 in
theorem sCanLearn (A : Option Addr) (n c : Nat) (xs : List SkillR) (B : Option Addr) (m d : Nat) (ts : List Int) (w : World) (hn : n ≤ maxLen) (hx : ReadsSkill w A n xs) (hm : m ≤ maxLen) (ht : ReadsI w B m ts) : Calls Try.prog 14 #[.slice A n c, .slice B m d] w (RowB (CanLearnL n xs m ts) w) := by
  obtain ⟨i0, hi0, hz0, hz1, hz2⟩ := info_parts infoI
  have HV : Hid (CanLearnL n xs m ts = if skOk n xs && risB ts 0 ((n : Int) - 1) m then idxTo (openB xs ts) n else []) := Lib.hid rfl
  have hw0 : In w.heap.size w (w.alloc (.cells #[] 3)) := by (repeat (first | exact In.refl _ | assumption | apply In.alloc | apply In.drewN | apply In.drew | (refine In.step ?_ (by assumption))))
  have hown0 : (w.alloc (.cells #[] 3)).ownsRow w.heap.size 3 1 (.slice (some ⟨w.heap.size, 0, none⟩) 0 0) 0 (iv []) := own_new w 3 w.heap.size (Nat.le_refl _)
  have HXX := Lib.hid hx
  have HTT := Lib.hid ht
  clear hx ht
  go_enter Try.func14, Try.ntmps14
  go_wp2_with fail
  refine (sSkillsOk A n c xs _ hn (HXX.out.in_ hw0)).mono ?_
  rintro _ w1 ⟨rfl, hb1⟩
  have hw1 := hw0.step hb1
  have hown1 := own_step hown0 hb1
  clear hw0 hown0 hb1
  cases h1 : skOk n xs
  · have HE : Hid (CanLearnL n xs m ts = []) := Lib.hid (by rw [HV.out, h1]; rfl)
    go_wp2
    go_ret
    rw [HE.out]
    exact rowB_of rfl hown1 hw1.below
  have hn12 := (skOk_at h1).1
  go_wp2_with fail
  refine (sRising B m d ts 0 ((n : Int) - 1) _ hm (HTT.out.below hw1.below (Nat.le_refl _))).mono ?_
  rintro _ w2 ⟨rfl, hb2⟩
  have hw2 := hw1.step hb2
  have hown2 := own_step hown1 hb2
  clear hw1 hown1 hb2
  cases h2 : risB ts 0 ((n : Int) - 1) m
  · have HE : Hid (CanLearnL n xs m ts = []) := Lib.hid (by rw [HV.out, h1, h2]; rfl)
    go_wp2
    go_ret
    rw [HE.out]
    exact rowB_of rfl hown2 hw2.below
  have HE : Hid (CanLearnL n xs m ts = idxTo (openB xs ts) n) := Lib.hid (by rw [HV.out, h1, h2]; rfl)
  clear h1 h2 HV
  go_wp2
  go_loopw [5, 6] (fun v i wr => ∃ k : Nat, k ≤ n ∧ i = .int .i64 k ∧ wr.ownsRow w.heap.size 3 1 v (idxTo (openB xs ts) k).length (iv (idxTo (openB xs ts) k)) ∧ In w.heap.size w wr) (fun _ i _ => n - (intOf i).toNat)
  case atStart => exact ⟨0, Nat.zero_le _, rfl, hown2, hw2⟩
  case round =>
    clear hown2 hw2
    obtain ⟨k, hk, rfl, hown, hi⟩ := hrel
    obtain ⟨A1, c1, rfl⟩ := own_shape_i hown
    by_cases hlt : k < n
    · have hll := idxTo_len (openB xs ts) k
      have HSt : Hid (openB xs ts k = true → idxTo (openB xs ts) (k + 1) = idxTo (openB xs ts) k ++ [(k : Int)]) := Lib.hid fun h => idxTo_t h
      have HSf : Hid (openB xs ts k = false → idxTo (openB xs ts) (k + 1) = idxTo (openB xs ts) k) := Lib.hid fun h => idxTo_f h
      generalize idxTo (openB xs ts) k = L at *
      generalize hmm : L.length = m9 at hown hll
      have HM := Lib.hid hmm
      clear hmm
      obtain ⟨a, rfl, C, c', ⟨h0, h9⟩, g1, g2, hr⟩ := (HXX.out.in_ hi).2 k hlt
      have HO : Hid (openB xs ts k = (!hasN ts k && allOk (fun i => hasN ts ((needs xs k).getD i 0)) (needs xs k).length)) := Lib.hid rfl
      unfold needs at HO
      generalize (xs.getD k z23).f0 = ns at *
      have hnm : ns.length ≤ maxLen := Nat.le_trans g1 g2
      have HR := Lib.hid hr
      have HT8 := Lib.hid (HTT.out.below hi.below (Nat.le_refl _))
      have HOWN := Lib.hid hown
      clear g1 g2 hr h9 hown
      unfold maxLen at hnm
      go_wp2_with fail
      refine (sHas B m d ts k _ hm HT8.out).mono ?_
      rintro _ _ ⟨rfl, rfl⟩
      generalize hasN ts k = hk0 at *
      obtain ⟨w8, rfl⟩ : ∃ w8, w8 = wr := ⟨_, rfl⟩
      go_wp2
      go_loopw [7, 8] (fun r i wr => ∃ t : Nat, t ≤ ns.length ∧ i = .int .i64 t ∧ wr = w8 ∧ r = .bool (!hk0 && allOk (fun i => hasN ts (ns.getD i 0)) t)) (fun _ i _ => ns.length - (intOf i).toNat)
      case atStart => exact ⟨0, Nat.zero_le _, rfl, rfl, by simp [allOk]⟩
      case round =>
        obtain ⟨t, htt, rfl, hww, rfl⟩ := hrel
        subst hww
        have HR1 : Hid ((!hk0 && allOk (fun i => hasN ts (ns.getD i 0)) (t + 1)) = ((!hk0 && allOk (fun i => hasN ts (ns.getD i 0)) t) && hasN ts (ns.getD t 0))) := Lib.hid (by simp only [allOk, Bool.and_assoc])
        by_cases hlt2 : t < ns.length
        · obtain ⟨b, rfl, hb⟩ := HR.out.2 t hlt2
          generalize (!hk0 && allOk (fun i => hasN ts (ns.getD i 0)) t) = r at *
          generalize ns.getD t 0 = x at *
          cases r
          · go_wp2
            go_roundw
            case rel => exact ⟨t + 1, by omega, by go_num, by first | rfl | trivial, by rw [HR1.out]; rfl⟩
            case measure => simp [intOf]; omega
          · go_wp2_with fail
            refine (sHas B m d ts x _ hm HT8.out).mono ?_
            rintro _ _ ⟨rfl, rfl⟩
            go_wp2
            go_roundw
            case rel => exact ⟨t + 1, by omega, by go_num, by first | rfl | trivial, by rw [HR1.out]; rfl⟩
            case measure => simp [intOf]; omega
        · obtain rfl : t = ns.length := by omega
          clear HR1
          rw [← HO.out]
          have hown := HOWN.out
          cases h1 : openB xs ts k
          · have HS := Lib.hid (HSf.out h1)
            go_wp2
            go_roundw
            case rel => exact ⟨k + 1, by omega, by go_num, by rw [HS.out, HM.out]; exact hown, hi⟩
            case measure => simp [intOf]; omega
          · have HS := Lib.hid (HSt.out h1)
            clear h1
            have F9 : Hid (∀ u ∈ (#[Value.int .i64 ((k : Int))] : Array Value).toList, u.oneCell' = true) := Lib.hid (by intro u hu; simp at hu; subst hu; rfl)
            have f92 : m9 + 1 ≤ maxLen := by unfold maxLen; omega
            have f93 : (m9 + 1) * 8 ≤ 140737488355328 := by omega
            have hB9 : w.heap.size ≤ wr.heap.size := In.size (B := w.heap.size) (a := w) (by (repeat (first | exact In.refl _ | assumption | apply In.alloc | apply In.drewN | apply In.drew | (refine In.step ?_ (by assumption)))))
            go_wp2_with (first | (go_at_call 30; refine (sIn _ _ _ _).mono ?_; rintro e w' ⟨rfl, rfl⟩) | (go_at_call 35; refine (iIn _ _ _ _).mono ?_; rintro e w' ⟨rfl, rfl⟩) | (at_builtin; refine wpList_app wr rfl (.tmp 56) (.tmp 58) 29 rfl w.heap.size 3 i0 (.int .i64 0) 1 8 Try.underlying29 hi0 hz0 hz1 hz2 rfl Nat.one_pos (.slice A1 m9 c1) (m9) (iv (L)) rfl hown 1 #[.int .i64 ((k : Int))] rfl rfl F9.out f92 f93 hB9 ?_; intro v9 w9 hown9 hbw9) | go_in | (go_end0; simp only []; go_at_K))
            have hi9 : In w.heap.size w w9 := In.wide hi hbw9
            have hown2 : w9.ownsRow w.heap.size 3 1 v9 (idxTo (openB xs ts) (k + 1)).length (iv (idxTo (openB xs ts) (k + 1))) := by rw [HS.out, iv_app, List.length_append, HM.out]; exact hown9
            clear hown9 hbw9 hown f92 f93 hB9
            go_wp2
            go_roundw
            case rel => exact ⟨k + 1, by omega, by go_num, hown2, hi9⟩
            case measure => simp [intOf]; omega
    · obtain rfl : k = n := by omega
      go_wp2
      go_ret
      rw [HE.out]
      exact rowB_of rfl hown hi.below
end Go.Proofs.Ytcapgojjhlfapab
