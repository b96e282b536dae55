/- Chapter 35: WrongSlips. -/
import Derived.Test.YtgjbbidcpmglbaaC35
import Derived.Test.YtgjbbidcpmglbaaOwnI
namespace Go.Proofs.Ytgjbbidcpmglbaa
open Go.ChangeShapes Go.WideShapes Go.ChangeAt Go.RowKit
set_option linter.unusedVariables false
set_option linter.unusedSimpArgs false
set_option maxHeartbeats 2000000
set_option maxRecDepth 10000

def wrP (xs : List SlipR) (i : Nat) : Bool := !slipB (xs.getD i z35).f0 (xs.getD i z35).f1 (xs.getD i z35).f2
def WrongSlipsL (n : Nat) (xs : List SlipR) : List Int := if n ≤ 60 then idxTo (wrP xs) n else []
theorem WrongSlipsL_len (n : Nat) (xs : List SlipR) : (WrongSlipsL n xs).length ≤ 60 := by
  unfold WrongSlipsL
  split
  · have := idxTo_len (wrP xs) n
    omega
  · simp
theorem iWrongSlips (A : Option Addr) (n c : Nat) (xs : List SlipR) (w : World) (hn : n ≤ maxLen) (hx : ReadsSlip w A n xs) : Calls Try.prog 13 #[.slice A n c] w (RowB (WrongSlipsL n xs) w) := by
  obtain ⟨i0, hi0, hz0, hz1, hz2⟩ := info_parts infoI
  unfold maxLen at hn
  have hw0 : In w.heap.size w w := by (repeat (first | exact In.refl _ | assumption | apply In.alloc | apply In.drewN | apply In.drew | (refine In.step ?_ (by assumption))))
  have hown0 : w.ownsRow w.heap.size 3 1 (.slice none 0 0) 0 (iv []) := ⟨rfl, .inl ⟨rfl, rfl⟩⟩
  by_cases h60 : n ≤ 60
  case neg =>
    have HV : Hid (WrongSlipsL n xs = []) := Lib.hid (by simp [WrongSlipsL, h60])
    have h61 : 60 < n := by omega
    go_enter Try.func13, Try.ntmps13
    go_wp2
    go_ret
    rw [HV.out]
    exact rowB_of rfl hown0 hw0.below
  have HV : Hid (WrongSlipsL n xs = idxTo (wrP xs) n) := Lib.hid (by simp [WrongSlipsL, h60])
  go_enter Try.func13, Try.ntmps13
  go_wp2
  go_loopw [3, 11] (fun v i wr => ∃ (k : Nat), k ≤ n ∧ i = .int .i64 k ∧ wr.ownsRow w.heap.size 3 1 v (idxTo (wrP xs) k).length (iv (idxTo (wrP xs) k)) ∧ In w.heap.size w wr) (fun _ i _ => n - (intOf i).toNat)
  case atStart => exact ⟨0, Nat.zero_le _, rfl, hown0, hw0⟩
  case round =>
    obtain ⟨k, hk, rfl, hown, hi⟩ := hrel
    obtain ⟨A1, c1, rfl⟩ := own_shape_i hown
    by_cases hlt : k < n
    · have HL2 := Lib.hid (idxTo_len (wrP xs) k)
      obtain ⟨a, rfl, ha0, ha1, ha2⟩ := (hx.in_ hi).2 k hlt
      have HK : Hid (wrP xs k = (!slipB (xs.getD k z35).f0 (xs.getD k z35).f1 (xs.getD k z35).f2)) := Lib.hid rfl
      generalize xs.getD k z35 = x at *
      obtain ⟨x0, x1, x2⟩ := x
      simp only at ha0 ha1 ha2 HK
      cases h1 : (!slipB x0 x1 x2)
      · have HS := Lib.hid (idxTo_f (p := wrP xs) (k := k) (by rw [HK.out]; exact h1))
        clear HL2
        go_wp2_with fail
        refine (iSlipOk x0 x1 x2 _).mono ?_
        rintro _ w1 ⟨rfl, hb1⟩
        have h1' := h1
        simp only [Bool.not_eq_true', Bool.not_eq_false'] at h1'
        rw [h1']
        clear h1'
        have hown1 : w1.ownsRow w.heap.size 3 1 (.slice A1 (idxTo (wrP xs) k).length c1) (idxTo (wrP xs) k).length (iv (idxTo (wrP xs) k)) := own_step (by (with_reducible (repeat (first | assumption | apply World.ownsRow.drew | apply World.ownsRow.alloc)))) hb1
        go_wp2
        go_roundw
        case rel => exact ⟨k + 1, by omega, by go_num, by rw [HS.out]; (with_reducible (repeat (first | assumption | apply World.ownsRow.drew | apply World.ownsRow.alloc))), by (repeat (first | exact In.refl _ | assumption | apply In.alloc | apply In.drewN | apply In.drew | (refine In.step ?_ (by assumption))))⟩
        case measure => simp [intOf]; omega
      · have HS := Lib.hid (idxTo_t (p := wrP xs) (k := k) (by rw [HK.out]; exact h1))
        have hll := HL2.out
        clear HL2
        generalize hL : idxTo (wrP xs) k = L at hown hll HS
        generalize hm : L.length = m at hown hll
        have HM := Lib.hid hm
        clear hL hm
        go_wp2_with fail
        refine (iSlipOk x0 x1 x2 _).mono ?_
        rintro _ w1 ⟨rfl, hb1⟩
        have h1' := h1
        simp only [Bool.not_eq_true', Bool.not_eq_false'] at h1'
        rw [h1']
        clear h1'
        have hown' : w1.ownsRow w.heap.size 3 1 (.slice A1 m c1) m (iv L) := own_step (by (with_reducible (repeat (first | assumption | apply World.ownsRow.drew | apply World.ownsRow.alloc)))) hb1
        have hi1 : In w.heap.size w w1 := In.step (by (repeat (first | exact In.refl _ | assumption | apply In.alloc | apply In.drewN | apply In.drew | (refine In.step ?_ (by assumption))))) hb1
        clear hown hb1
        have F9 : Hid (∀ u ∈ (#[Value.int .i64 ((k : Int))] : Array Value).toList, u.oneCell' = true) := Lib.hid (by intro u hu; simp at hu; subst hu; rfl)
        have f92 : m + 1 ≤ maxLen := by unfold maxLen; omega
        have f93 : (m + 1) * 8 ≤ 140737488355328 := by omega
        have hB9 : w.heap.size ≤ w1.heap.size := In.size (B := w.heap.size) (a := w) (by (repeat (first | exact In.refl _ | assumption | apply In.alloc | apply In.drewN | apply In.drew | (refine In.step ?_ (by assumption)))))
        go_wp2_with (first | (go_at_call 66; refine (iIn _ _ _ _).mono ?_; rintro e w' ⟨rfl, rfl⟩) | (at_builtin; refine wpList_app w1 rfl (.tmp 19) (.tmp 21) 27 rfl w.heap.size 3 i0 (.int .i64 0) 1 8 Try.underlying27 hi0 hz0 hz1 hz2 rfl Nat.one_pos (.slice A1 m c1) (m) (iv (L)) rfl hown' 1 #[.int .i64 ((k : Int))] rfl rfl F9.out f92 f93 hB9 ?_; intro v9 w9 hown9 hbw9) | go_in | (go_end0; simp only []; go_at_K))
        have hi9 : In w.heap.size w w9 := In.wide hi1 hbw9
        have hown2 : w9.ownsRow w.heap.size 3 1 v9 (idxTo (wrP xs) (k + 1)).length (iv (idxTo (wrP xs) (k + 1))) := by rw [HS.out, iv_app, List.length_append, HM.out]; exact hown9
        clear hown9 hbw9 hown' f92 f93 hB9
        go_wp2
        go_roundw
        case rel => exact ⟨k + 1, by omega, by go_num, hown2, hi9⟩
        case measure => simp [intOf]; omega
    · obtain rfl : k = n := by omega
      go_wp2
      go_ret
      rw [HV.out]
      exact rowB_of rfl hown hi.below
end Go.Proofs.Ytgjbbidcpmglbaa
