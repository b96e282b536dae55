/- Chapter 12: BadPieces. -/
import Derived.Test.YtjcmdmiafeaeoadC12
import Derived.Test.YtjcmdmiafeaeoadOwnI
import Derived.Test.YtjcmdmiafeaeoadIdx
namespace Go.Proofs.Ytjcmdmiafeaeoad
open Go.ChangeShapes Go.WideShapes Go.ChangeAt Go.RowKit
set_option linter.unusedVariables false
set_option linter.unusedSimpArgs false

def badP (xs : List Int) (t d : Int) (i : Nat) : Bool := !(inB (xs.getD i 0) (t - d) (t + d))
def BadPiecesL (n : Nat) (xs : List Int) (t d : Int) : List Int := if piecesB n xs && inB t 1 5000 && inB d 0 1000 then idxTo (badP xs t d) n else []
theorem BadPiecesL_len (n : Nat) (xs : List Int) (t d : Int) : (BadPiecesL n xs t d).length ≤ 40 := by
  unfold BadPiecesL
  split
  · rename_i h
    simp only [piecesB, Bool.and_eq_true, decide_eq_true_eq] at h
    have := idxTo_len (badP xs t d) n
    omega
  · simp
theorem iToleranceOk (d : Int) (w : World) : Calls Try.prog 15 #[.int .i64 d] w (Same (.bool (inB d 0 1000)) w) := by
  go_enter Try.func15, Try.ntmps15
  go_wp2_with (first | (go_at_call 12; refine (sIn _ _ _ _).mono ?_; rintro e w' ⟨rfl, rfl⟩) | (go_at_call 20; refine (iIn _ _ _ _).mono ?_; rintro e w' ⟨rfl, rfl⟩) | go_in | (go_end0; simp only []; go_at_K))
  go_ret
  exact ⟨rfl, rfl⟩
theorem iDist (a b : Int) (ha : -1000000000 ≤ a ∧ a ≤ 1000000000) (hb : -1000000000 ≤ b ∧ b ≤ 1000000000) (w : World) : Calls Try.prog 21 #[.int .i64 a, .int .i64 b] w (Same (i64 (max (a - b) (b - a))) w) := by
  by_cases h : a - b < b - a
  all_goals
    go_enter Try.func21, Try.ntmps21
    go_wp2
    go_ret
    exact ⟨ret_int (by omega), rfl⟩
set_option maxHeartbeats 2000000 in
theorem sBadPieces (A : Option Addr) (n c : Nat) (xs : List Int) (t d : Int) (w : World) (hn : n ≤ maxLen) (hx : ReadsI w A n xs) : Calls Try.prog 13 #[.slice A n c, .int .i64 t, .int .i64 d] w (RowB (BadPiecesL n xs t d) w) := by
  obtain ⟨i0, hi0, hz0, hz1, hz2⟩ := info_parts infoI
  have hw0 : In w.heap.size w (w.alloc (.cells #[] 3)) := by (repeat (first | exact In.refl _ | assumption | apply In.alloc | apply In.drewN | apply In.drew | (refine In.step ?_ (by assumption))))
  have hown0 : (w.alloc (.cells #[] 3)).ownsRow w.heap.size 3 1 (.slice (some ⟨w.heap.size, 0, none⟩) 0 0) 0 (iv []) := own_new w 3 w.heap.size (Nat.le_refl _)
  cases h1 : piecesB n xs
  · have HV : Hid (BadPiecesL n xs t d = []) := Lib.hid (by simp [BadPiecesL, h1])
    go_enter Try.func13, Try.ntmps13
    go_wp2_with (first | (go_at_call 12; refine (sIn _ _ _ _).mono ?_; rintro e w' ⟨rfl, rfl⟩) | (go_at_call 20; refine (iIn _ _ _ _).mono ?_; rintro e w' ⟨rfl, rfl⟩) | (go_at_call 11; refine (sPiecesOk A n c xs _ hn (by exact hx.below hw0.below (Nat.le_refl _))).mono ?_; rintro e w' ⟨rfl, rfl⟩) | go_in | (go_end0; simp only []; go_at_K))
    go_ret
    rw [HV.out]
    exact rowB_of rfl hown0 hw0.below
  cases h2 : inB t 1 5000
  · have HV : Hid (BadPiecesL n xs t d = []) := Lib.hid (by simp [BadPiecesL, h2])
    go_enter Try.func13, Try.ntmps13
    go_wp2_with (first | (go_at_call 12; refine (sIn _ _ _ _).mono ?_; rintro e w' ⟨rfl, rfl⟩) | (go_at_call 20; refine (iIn _ _ _ _).mono ?_; rintro e w' ⟨rfl, rfl⟩) | (go_at_call 11; refine (sPiecesOk A n c xs _ hn (by exact hx.below hw0.below (Nat.le_refl _))).mono ?_; rintro e w' ⟨rfl, rfl⟩) | go_in | (go_end0; simp only []; go_at_K))
    go_ret
    rw [HV.out]
    exact rowB_of rfl hown0 hw0.below
  cases h3 : inB d 0 1000
  · have HV : Hid (BadPiecesL n xs t d = []) := Lib.hid (by simp [BadPiecesL, h3])
    go_enter Try.func13, Try.ntmps13
    go_wp2_with (first | (go_at_call 12; refine (sIn _ _ _ _).mono ?_; rintro e w' ⟨rfl, rfl⟩) | (go_at_call 20; refine (iIn _ _ _ _).mono ?_; rintro e w' ⟨rfl, rfl⟩) | (go_at_call 11; refine (sPiecesOk A n c xs _ hn (by exact hx.below hw0.below (Nat.le_refl _))).mono ?_; rintro e w' ⟨rfl, rfl⟩) | go_in | (go_end0; simp only []; go_at_K))
    go_ret
    rw [HV.out]
    exact rowB_of rfl hown0 hw0.below
  have HV : Hid (BadPiecesL n xs t d = idxTo (badP xs t d) n) := Lib.hid (by simp [BadPiecesL, h1, h2, h3])
  obtain ⟨p1, p2⟩ := pieces_at h1
  have HP := Lib.hid p2
  obtain ⟨t1, t2⟩ := inB_tt h2
  obtain ⟨d1, d2⟩ := inB_tt h3
  clear p2
  go_enter Try.func13, Try.ntmps13
  go_wp2_with (first | (go_at_call 12; refine (sIn _ _ _ _).mono ?_; rintro e w' ⟨rfl, rfl⟩) | (go_at_call 20; refine (iIn _ _ _ _).mono ?_; rintro e w' ⟨rfl, rfl⟩) | (go_at_call 11; refine (sPiecesOk A n c xs _ hn (by exact hx.below hw0.below (Nat.le_refl _))).mono ?_; rintro e w' ⟨rfl, rfl⟩) | go_in | (go_end0; simp only []; go_at_K))
  clear h1 h2 h3
  go_loopw [7, 8] (fun v i wr => ∃ (k : Nat), k ≤ n ∧ i = .int .i64 k ∧ wr.ownsRow w.heap.size 3 1 v (idxTo (badP xs t d) k).length (iv (idxTo (badP xs t d) k)) ∧ In w.heap.size w wr) (fun _ i _ => n - (intOf i).toNat)
  case atStart => exact ⟨0, Nat.zero_le _, rfl, hown0, hw0⟩
  case round =>
    clear hown0 hw0
    obtain ⟨k, hk, rfl, hown, hi⟩ := hrel
    obtain ⟨A1, c1, rfl⟩ := own_shape_i hown
    by_cases hlt : k < n
    · obtain ⟨a, rfl, ha⟩ := (hx.below hi.below (Nat.le_refl _)).2 k hlt
      have HK : Hid (badP xs t d k = !(inB (xs.getD k 0) (t - d) (t + d))) := Lib.hid rfl
      obtain ⟨x1, x2⟩ := HP.out k hlt
      generalize xs.getD k 0 = x at ha HK x1 x2
      cases hb : inB x (t - d) (t + d)
      · have hout := inB_ff hb
        have HS := Lib.hid (idxTo_t (p := badP xs t d) (k := k) (by rw [HK.out, hb]; rfl))
        have hll : (idxTo (badP xs t d) k).length ≤ k := idxTo_len _ _
        generalize hL : idxTo (badP xs t d) k = L at hown hll HS
        generalize hm : L.length = m at hown hll
        have HM := Lib.hid hm
        clear hL hm
        have F1 : Hid (∀ u ∈ (#[Value.int .i64 ((k : Int))] : Array Value).toList, u.oneCell' = true) := Lib.hid (by intro u hu; simp at hu; subst hu; rfl)
        have f12 : m + 1 ≤ maxLen := by unfold maxLen; omega
        have f13 : (m + 1) * 8 ≤ 140737488355328 := by omega
        have hB1 : w.heap.size ≤ wr.heap.size := In.size (B := w.heap.size) (a := w) (by (repeat (first | exact In.refl _ | assumption | apply In.alloc | apply In.drewN | apply In.drew | (refine In.step ?_ (by assumption)))))
        go_wp2_with (first | (go_at_call 12; refine (sIn _ _ _ _).mono ?_; rintro e w' ⟨rfl, rfl⟩) | (go_at_call 20; refine (iIn _ _ _ _).mono ?_; rintro e w' ⟨rfl, rfl⟩) | (at_builtin; refine wpList_app wr rfl (.tmp 42) (.tmp 44) 22 rfl w.heap.size 3 i0 (.int .i64 0) 1 8 Try.underlying22 hi0 hz0 hz1 hz2 rfl Nat.one_pos (.slice A1 m c1) (m) (iv (L)) rfl hown 1 #[.int .i64 ((k : Int))] rfl rfl F1.out f12 f13 hB1 ?_; intro v1 w1 hown1 hbw1) | go_in | (go_end0; simp only []; go_at_K))
        have hi1 : In w.heap.size w w1 := In.wide hi hbw1
        have hown2 : w1.ownsRow w.heap.size 3 1 v1 (idxTo (badP xs t d) (k + 1)).length (iv (idxTo (badP xs t d) (k + 1))) := by rw [HS.out, iv_app, List.length_append, HM.out]; exact hown1
        clear hown1 hbw1 hown f12 f13 hB1
        go_wp2
        go_roundw
        case rel => exact ⟨k + 1, by omega, by go_num, hown2, hi1⟩
        case measure => simp [intOf]; omega
      · have hin := inB_tt hb
        have HS := Lib.hid (idxTo_f (p := badP xs t d) (k := k) (by rw [HK.out, hb]; rfl))
        go_wp2_with (first | (go_at_call 12; refine (sIn _ _ _ _).mono ?_; rintro e w' ⟨rfl, rfl⟩) | (go_at_call 20; refine (iIn _ _ _ _).mono ?_; rintro e w' ⟨rfl, rfl⟩) | go_in | (go_end0; simp only []; go_at_K))
        go_roundw
        case rel => exact ⟨k + 1, by omega, by go_num, by rw [HS.out]; exact hown, hi⟩
        case measure => simp [intOf]; omega
    · obtain rfl : k = n := by omega
      go_wp2
      go_ret
      rw [HV.out]
      exact rowB_of rfl hown hi.below
set_option maxHeartbeats 2000000 in
theorem iBadPieces (A : Option Addr) (n c : Nat) (xs : List Int) (t d : Int) (w : World) (hn : n ≤ maxLen) (hx : ReadsI w A n xs) : Calls Try.prog 16 #[.slice A n c, .int .i64 t, .int .i64 d] w (RowB (BadPiecesL n xs t d) w) := by
  obtain ⟨i0, hi0, hz0, hz1, hz2⟩ := info_parts infoI
  have hw0 : In w.heap.size w w := by (repeat (first | exact In.refl _ | assumption | apply In.alloc | apply In.drewN | apply In.drew | (refine In.step ?_ (by assumption))))
  have hown0 : w.ownsRow w.heap.size 3 1 (.slice none 0 0) 0 (iv []) := ⟨rfl, .inl ⟨rfl, rfl⟩⟩
  cases h1 : piecesB n xs
  · have HV : Hid (BadPiecesL n xs t d = []) := Lib.hid (by simp [BadPiecesL, h1])
    go_enter Try.func16, Try.ntmps16
    go_wp2_with (first | (go_at_call 12; refine (sIn _ _ _ _).mono ?_; rintro e w' ⟨rfl, rfl⟩) | (go_at_call 20; refine (iIn _ _ _ _).mono ?_; rintro e w' ⟨rfl, rfl⟩) | (go_at_call 14; refine (iPiecesOk A n c xs _ hn (by exact hx.below hw0.below (Nat.le_refl _))).mono ?_; rintro e w' ⟨rfl, rfl⟩) | (go_at_call 15; refine (iToleranceOk d _).mono ?_; rintro e w' ⟨rfl, rfl⟩) | go_in | (go_end0; simp only []; go_at_K))
    go_ret
    rw [HV.out]
    exact rowB_of rfl hown0 hw0.below
  cases h2 : inB t 1 5000
  · have HV : Hid (BadPiecesL n xs t d = []) := Lib.hid (by simp [BadPiecesL, h2])
    go_enter Try.func16, Try.ntmps16
    go_wp2_with (first | (go_at_call 12; refine (sIn _ _ _ _).mono ?_; rintro e w' ⟨rfl, rfl⟩) | (go_at_call 20; refine (iIn _ _ _ _).mono ?_; rintro e w' ⟨rfl, rfl⟩) | (go_at_call 14; refine (iPiecesOk A n c xs _ hn (by exact hx.below hw0.below (Nat.le_refl _))).mono ?_; rintro e w' ⟨rfl, rfl⟩) | (go_at_call 15; refine (iToleranceOk d _).mono ?_; rintro e w' ⟨rfl, rfl⟩) | go_in | (go_end0; simp only []; go_at_K))
    go_ret
    rw [HV.out]
    exact rowB_of rfl hown0 hw0.below
  cases h3 : inB d 0 1000
  · have HV : Hid (BadPiecesL n xs t d = []) := Lib.hid (by simp [BadPiecesL, h3])
    go_enter Try.func16, Try.ntmps16
    go_wp2_with (first | (go_at_call 12; refine (sIn _ _ _ _).mono ?_; rintro e w' ⟨rfl, rfl⟩) | (go_at_call 20; refine (iIn _ _ _ _).mono ?_; rintro e w' ⟨rfl, rfl⟩) | (go_at_call 14; refine (iPiecesOk A n c xs _ hn (by exact hx.below hw0.below (Nat.le_refl _))).mono ?_; rintro e w' ⟨rfl, rfl⟩) | (go_at_call 15; refine (iToleranceOk d _).mono ?_; rintro e w' ⟨rfl, rfl⟩) | go_in | (go_end0; simp only []; go_at_K))
    go_ret
    rw [HV.out]
    exact rowB_of rfl hown0 hw0.below
  have HV : Hid (BadPiecesL n xs t d = idxTo (badP xs t d) n) := Lib.hid (by simp [BadPiecesL, h1, h2, h3])
  obtain ⟨p1, p2⟩ := pieces_at h1
  have HP := Lib.hid p2
  obtain ⟨t1, t2⟩ := inB_tt h2
  obtain ⟨d1, d2⟩ := inB_tt h3
  clear p2
  go_enter Try.func16, Try.ntmps16
  go_wp2_with (first | (go_at_call 12; refine (sIn _ _ _ _).mono ?_; rintro e w' ⟨rfl, rfl⟩) | (go_at_call 20; refine (iIn _ _ _ _).mono ?_; rintro e w' ⟨rfl, rfl⟩) | (go_at_call 14; refine (iPiecesOk A n c xs _ hn (by exact hx.below hw0.below (Nat.le_refl _))).mono ?_; rintro e w' ⟨rfl, rfl⟩) | (go_at_call 15; refine (iToleranceOk d _).mono ?_; rintro e w' ⟨rfl, rfl⟩) | go_in | (go_end0; simp only []; go_at_K))
  clear h1 h2 h3
  go_loopw [7, 25] (fun v i wr => ∃ (k : Nat), k ≤ n ∧ i = .int .i64 k ∧ wr.ownsRow w.heap.size 3 1 v (idxTo (badP xs t d) k).length (iv (idxTo (badP xs t d) k)) ∧ In w.heap.size w wr) (fun _ i _ => n - (intOf i).toNat)
  case atStart => exact ⟨0, Nat.zero_le _, rfl, hown0, hw0⟩
  case round =>
    clear hown0 hw0
    obtain ⟨k, hk, rfl, hown, hi⟩ := hrel
    obtain ⟨A1, c1, rfl⟩ := own_shape_i hown
    by_cases hlt : k < n
    · obtain ⟨a, rfl, ha⟩ := (hx.below hi.below (Nat.le_refl _)).2 k hlt
      have HK : Hid (badP xs t d k = !(inB (xs.getD k 0) (t - d) (t + d))) := Lib.hid rfl
      obtain ⟨x1, x2⟩ := HP.out k hlt
      generalize xs.getD k 0 = x at ha HK x1 x2
      cases hb : inB x (t - d) (t + d)
      · have hout := inB_ff hb
        have HS := Lib.hid (idxTo_t (p := badP xs t d) (k := k) (by rw [HK.out, hb]; rfl))
        have hll : (idxTo (badP xs t d) k).length ≤ k := idxTo_len _ _
        have hd : d < max (x - t) (t - x) := by omega
        generalize hL : idxTo (badP xs t d) k = L at hown hll HS
        generalize hm : L.length = m at hown hll
        have HM := Lib.hid hm
        clear hL hm
        have F1 : Hid (∀ u ∈ (#[Value.int .i64 ((k : Int))] : Array Value).toList, u.oneCell' = true) := Lib.hid (by intro u hu; simp at hu; subst hu; rfl)
        have f12 : m + 1 ≤ maxLen := by unfold maxLen; omega
        have f13 : (m + 1) * 8 ≤ 140737488355328 := by omega
        have hB1 : w.heap.size ≤ wr.heap.size := In.size (B := w.heap.size) (a := w) (by (repeat (first | exact In.refl _ | assumption | apply In.alloc | apply In.drewN | apply In.drew | (refine In.step ?_ (by assumption)))))
        go_wp2_with (first | (go_at_call 12; refine (sIn _ _ _ _).mono ?_; rintro e w' ⟨rfl, rfl⟩) | (go_at_call 20; refine (iIn _ _ _ _).mono ?_; rintro e w' ⟨rfl, rfl⟩) | (go_at_call 21; refine (iDist x t (by omega) (by omega) _).mono ?_; rintro e w' ⟨rfl, rfl⟩) | (at_builtin; refine wpList_app wr rfl (.tmp 35) (.tmp 37) 22 rfl w.heap.size 3 i0 (.int .i64 0) 1 8 Try.underlying22 hi0 hz0 hz1 hz2 rfl Nat.one_pos (.slice A1 m c1) (m) (iv (L)) rfl hown 1 #[.int .i64 ((k : Int))] rfl rfl F1.out f12 f13 hB1 ?_; intro v1 w1 hown1 hbw1) | go_in | (go_end0; simp only []; go_at_K))
        have hi1 : In w.heap.size w w1 := In.wide hi hbw1
        have hown2 : w1.ownsRow w.heap.size 3 1 v1 (idxTo (badP xs t d) (k + 1)).length (iv (idxTo (badP xs t d) (k + 1))) := by rw [HS.out, iv_app, List.length_append, HM.out]; exact hown1
        clear hown1 hbw1 hown f12 f13 hB1
        go_wp2
        go_roundw
        case rel => exact ⟨k + 1, by omega, by go_num, hown2, hi1⟩
        case measure => simp [intOf]; omega
      · have hin := inB_tt hb
        have HS := Lib.hid (idxTo_f (p := badP xs t d) (k := k) (by rw [HK.out, hb]; rfl))
        have hd : ¬ d < max (x - t) (t - x) := by omega
        go_wp2_with (first | (go_at_call 12; refine (sIn _ _ _ _).mono ?_; rintro e w' ⟨rfl, rfl⟩) | (go_at_call 20; refine (iIn _ _ _ _).mono ?_; rintro e w' ⟨rfl, rfl⟩) | (go_at_call 21; refine (iDist x t (by omega) (by omega) _).mono ?_; rintro e w' ⟨rfl, rfl⟩) | go_in | (go_end0; simp only []; go_at_K))
        go_roundw
        case rel => exact ⟨k + 1, by omega, by go_num, by rw [HS.out]; exact hown, hi⟩
        case measure => simp [intOf]; omega
    · obtain rfl : k = n := by omega
      go_wp2
      go_ret
      rw [HV.out]
      exact rowB_of rfl hown hi.below
end Go.Proofs.Ytjcmdmiafeaeoad
