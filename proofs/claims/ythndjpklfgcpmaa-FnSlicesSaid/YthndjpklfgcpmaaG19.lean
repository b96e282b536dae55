/- Chapter 19: EvenSlices. -/
import Derived.Test.YthndjpklfgcpmaaE19
import Derived.Test.YthndjpklfgcpmaaC19
import Derived.Test.YthndjpklfgcpmaaK31
namespace Go.Proofs.Ythndjpklfgcpmaa
open Go.ChangeShapes Go.WideShapes Go.ChangeAt Go.RowKit Go.Shelf
set_option linter.unusedVariables false
set_option linter.unusedSimpArgs false
set_option maxHeartbeats 2000000

theorem cell_alloc9 {w : World} {p : Addr} {v : Value} {o : Obj} (h : w.cell? p = some v) : (w.alloc o).cell? p = some v := cell_in h ((In.refl w).alloc o)
def evB (l N : Int) : Bool := inB l 1 1000 && inB N 1 l
def EvenL (l N : Int) : List Int := if evB l N then evL l N (N.toNat - 1) else []
theorem EvenL_f {l N : Int} (h : evB l N = false) : EvenL l N = [] := by unfold EvenL; rw [h]; rfl
theorem EvenL_t {l N : Int} (h : evB l N = true) : EvenL l N = evL l N (N.toNat - 1) := by unfold EvenL; rw [if_pos h]
theorem EvenL_len (l N : Int) : (EvenL l N).length ≤ 100000 := by
  unfold EvenL
  split
  · rename_i h
    simp only [evB, Bool.and_eq_true] at h
    have h1 := inB_tt h.1
    have h2 := inB_tt h.2
    rw [evL_len]; omega
  · simp
theorem iEvenSlices (l N : Int) (w : World) : Calls Try.prog 12 #[.int .i64 l, .int .i64 N] w (RowB (EvenL l N) w) := by
  have own0 : ∀ W : World, W.ownsRow w.heap.size 3 1 (.slice none 0 0) 0 (iv []) := fun W => ⟨rfl, .inl ⟨rfl, rfl⟩⟩
  go_enter Try.func12, Try.ntmps12
  go_wp2_with fail
  refine (ilengthOk l _).mono ?_
  rintro _ _ ⟨rfl, rfl⟩
  cases h1 : inB l 1 1000
  · have HV := Lib.hid (EvenL_f (l := l) (N := N) (by unfold evB; rw [h1]; rfl))
    go_wp2
    go_ret
    exact rowB_of (by rw [HV.out]; rfl) (by rw [HV.out]; exact own0 _) (In.below (by (repeat (first | exact In.refl _ | assumption | apply In.alloc | apply In.drewN | apply In.drew | (refine In.step ?_ (by assumption))))))
  go_wp2_with fail
  refine (iIn N 1 l _).mono ?_
  rintro _ _ ⟨rfl, rfl⟩
  cases h2 : inB N 1 l
  · have HV := Lib.hid (EvenL_f (l := l) (N := N) (by unfold evB; rw [h1, h2]; rfl))
    go_wp2
    go_ret
    exact rowB_of (by rw [HV.out]; rfl) (by rw [HV.out]; exact own0 _) (In.below (by (repeat (first | exact In.refl _ | assumption | apply In.alloc | apply In.drewN | apply In.drew | (refine In.step ?_ (by assumption))))))
  have HV := Lib.hid (EvenL_t (l := l) (N := N) (by unfold evB; rw [h1, h2]; rfl))
  obtain ⟨l1, l2⟩ := inB_tt h1
  obtain ⟨n1, n2⟩ := inB_tt h2
  clear h1 h2 own0
  have HCU := Lib.hid (fun W => callsIn_wide.1 (cuts_in Fence.wide 10 trivial rfl l N W))
  have HCO := Lib.hid (fun g lb eg ys Sp M hM W hs => callsIn_wide.1 (collect_in Fence.wide 10 trivial trivial rfl (by omega) g lb trivial eg ys Sp M hM W hs))
  have HST := Lib.hid (fun B3 B2 n₀ W h3 h2 hn c3 c2 => cuts_stops Fence.wide (10 - 1 - 1) trivial rfl (by omega) B3 B2 n₀ l N ⟨l1, l2⟩ ⟨n1, by omega⟩ W h3 h2 hn c3 c2)
  go_wp2_with fail
  refine (HCU.out _).mono ?_
  rintro _ w2 ⟨rfl, rfl⟩
  go_wp2_with fail
  obtain ⟨W2, hW2⟩ : ∃ W2, W2 = (w.alloc (.cells #[.int .i64 l] 3)).alloc (.cells #[.int .i64 N] 3) := ⟨_, rfl⟩
  have hs2 : W2.heap.size = w.heap.size + 2 := by rw [hW2]; simp
  have c3 : W2.cell? ⟨w.heap.size + 1, 0, none⟩ = some (.int .i64 N) := by
    rw [hW2]; simp
  have c2 : W2.cell? ⟨w.heap.size, 0, none⟩ = some (.int .i64 l) := by
    rw [hW2]
    exact cell_alloc9 ((Blk.new w 3 #[.int .i64 l]).cell 0)
  have hi2 : In w.heap.size w W2 := by rw [hW2]; exact ((show In w.heap.size w w from by (repeat (first | exact In.refl _ | assumption | apply In.alloc | apply In.drewN | apply In.drew | (refine In.step ?_ (by assumption))))).alloc _).alloc _
  rw [← hW2]
  clear hW2
  refine (HCO.out 79 _ (enters_of Try.func79 (by kernel_rfl) rfl) (evL l N (N.toNat - 1)) (fun _ => True) (N.toNat - 1) (by omega) W2 (fun w' hb => HST.out _ _ W2.heap.size w' (by omega) (by omega) hb.size (cell_below hb (by omega) c3) (cell_below hb (by omega) c2))).mono ?_
  rintro _ w3 ⟨v, rfl, hown, hb3⟩
  have hi3 := hi2.step hb3
  have hw2 := hi2.size
  obtain ⟨A3, c3', rfl⟩ := own_shape_i hown
  have hown3 : w3.ownsRow W2.heap.size 3 1 (.slice A3 (evL l N (N.toNat - 1)).length c3') (evL l N (N.toNat - 1)).length (iv (evL l N (N.toNat - 1))) := hown
  clear hown hb3
  go_wp2
  go_ret
  exact rowB_of (by rw [HV.out]) (by rw [HV.out]; exact own_base (own_step hown3 (by (repeat (first | exact Below.refl _ _ | apply below_drewN | apply Below.drew | (refine Below.alloc ?_ (Nat.le_refl _) _))))) hw2) (In.below (by (repeat (first | exact In.refl _ | assumption | apply In.alloc | apply In.drewN | apply In.drew | (refine In.step ?_ (by assumption))))))
set_option maxHeartbeats 8000000 in
theorem sEvenSlices (l N : Int) (w : World) : Calls Try.prog 11 #[.int .i64 l, .int .i64 N] w (RowB (EvenL l N) w) := by
  obtain ⟨i0, hi0, hz0, hz1, hz2⟩ := info_parts info19
  have own0 : (w.alloc (.cells #[] 3)).ownsRow w.heap.size 3 1 (.slice (some ⟨w.heap.size, 0, none⟩) 0 0) 0 (iv []) := own_new w 3 w.heap.size (Nat.le_refl _)
  have hI0 : In w.heap.size w (w.alloc (.cells #[] 3)) := by (repeat (first | exact In.refl _ | assumption | apply In.alloc | apply In.drewN | apply In.drew | (refine In.step ?_ (by assumption))))
  go_enter Try.func11, Try.ntmps11
  go_wp2_with fail
  generalize w.alloc (.cells #[] 3) = w0 at *
  refine (sIn l 1 1000 _).mono ?_
  rintro _ _ ⟨rfl, rfl⟩
  cases h1 : inB l 1 1000
  · have HV := Lib.hid (EvenL_f (l := l) (N := N) (by unfold evB; rw [h1]; rfl))
    go_wp2
    go_ret
    exact rowB_of (by rw [HV.out]; rfl) (by rw [HV.out]; exact own_step own0 (by (repeat (first | exact Below.refl _ _ | apply below_drewN | apply Below.drew | (refine Below.alloc ?_ (Nat.le_refl _) _))))) (In.below (by (repeat (first | exact In.refl _ | assumption | apply In.alloc | apply In.drewN | apply In.drew | (refine In.step ?_ (by assumption))))))
  go_wp2_with fail
  refine (sIn N 1 l _).mono ?_
  rintro _ _ ⟨rfl, rfl⟩
  cases h2 : inB N 1 l
  · have HV := Lib.hid (EvenL_f (l := l) (N := N) (by unfold evB; rw [h1, h2]; rfl))
    go_wp2
    go_ret
    exact rowB_of (by rw [HV.out]; rfl) (by rw [HV.out]; exact own_step own0 (by (repeat (first | exact Below.refl _ _ | apply below_drewN | apply Below.drew | (refine Below.alloc ?_ (Nat.le_refl _) _))))) (In.below (by (repeat (first | exact In.refl _ | assumption | apply In.alloc | apply In.drewN | apply In.drew | (refine In.step ?_ (by assumption))))))
  have HV := Lib.hid (EvenL_t (l := l) (N := N) (by unfold evB; rw [h1, h2]; rfl))
  obtain ⟨l1, l2⟩ := inB_tt h1
  obtain ⟨n1, n2⟩ := inB_tt h2
  clear h1 h2
  have HO := Lib.hid own0
  clear own0
  go_wp2
  go_loopw [5, 6] (fun v i wr => ∃ m : Nat, m ≤ N.toNat - 1 ∧ i = .int .i64 ((m + 1 : Nat) : Int) ∧ wr.ownsRow w.heap.size 3 1 v m (iv (evL l N m)) ∧ In w.heap.size w wr) (fun _ i _ => N.toNat - (intOf i).toNat)
  case atStart => exact ⟨0, Nat.zero_le _, rfl, own_step HO.out (by (repeat (first | exact Below.refl _ _ | apply below_drewN | apply Below.drew | (refine Below.alloc ?_ (Nat.le_refl _) _)))), by (repeat (first | exact In.refl _ | assumption | apply In.alloc | apply In.drewN | apply In.drew | (refine In.step ?_ (by assumption))))⟩
  case round =>
    clear hI0
    obtain ⟨m, hm, rfl, hown, hi⟩ := hrel
    obtain ⟨A1, c1, rfl⟩ := own_shape_i hown
    by_cases hlt : m < N.toNat - 1
    · have HE := Lib.hid (evL_s l N m)
      obtain ⟨k, hk⟩ : ∃ k : Int, ((m + 1 : Nat) : Int) = k := ⟨_, rfl⟩
      have HK := Lib.hid hk
      have hkk : 1 ≤ k ∧ k < N := by omega
      rw [hk] at HE ⊢
      obtain ⟨p, hp⟩ : ∃ p, k * l = p := ⟨_, rfl⟩
      have hpp : 0 ≤ p ∧ p ≤ 1000000 := by
        have h1 := Int.mul_le_mul (a := k) (b := l) (c := 1000) (d := 1000) (by omega) (by omega) (by omega) (by omega)
        have h2 := Int.mul_nonneg (a := k) (b := l) (by omega) (by omega)
        omega
      have V1 : wrap64 (k * l) = p := by rw [hp, w64 ⟨by omega, by omega⟩]
      rw [hp] at HE
      clear hp
      obtain ⟨x, hx⟩ : ∃ x, p / N = x := ⟨_, rfl⟩
      have hxx : 0 ≤ x ∧ x ≤ 1000000 := by
        have h1 := Int.ediv_nonneg (a := p) (b := N) (by omega) (by omega)
        have h2 := Int.ediv_le_self N (a := p) (by omega)
        omega
      have Q1 : p.tdiv N = x := by rw [Int.tdiv_eq_ediv_of_nonneg (by omega), hx]
      have Q2w : wrap64 x = x := w64 ⟨by omega, by omega⟩
      have Q3 : ¬ (N = 0) := by omega
      have Q4 : (N == 0) = false := by simpa using Q3
      rw [hx] at HE
      clear hx hk
      have F1 : Hid (∀ u ∈ (#[Value.int .i64 x] : Array Value).toList, u.oneCell' = true) := Lib.hid (one_lit _)
      have f12 : m + 1 ≤ maxLen := cap12 (by omega)
      have f13 : (m + 1) * 8 ≤ 140737488355328 := cap13 (by omega)
      have hz9 := hi.size
      go_wp2_with (at_builtin; refine wpList_app wr rfl (.tmp 23) (.tmp 29) 22 rfl w.heap.size 3 i0 (.int .i64 0) 1 8 Try.underlying22 hi0 hz0 hz1 hz2 rfl Nat.one_pos (.slice A1 m c1) m (iv (evL l N m)) rfl hown 1 #[.int .i64 x] rfl rfl F1.out f12 f13 hz9 ?_; intro v1 w1_ hown1 hbw1)
      have hown3 : w1_.ownsRow w.heap.size 3 1 v1 (m + 1) (iv (evL l N (m + 1))) := by rw [HE.out, iv_app]; exact hown1
      have hi9 := hi.wide hbw1
      have V9 : wrap64 (k + 1) = k + 1 := w64 ⟨by omega, by omega⟩
      clear hown1 hbw1 hown f12 f13 hz9
      go_wp2
      go_roundw
      case rel => exact ⟨m + 1, by omega, by have := HK.out; congr 1; omega, hown3, hi9⟩
      case measure => have := HK.out; simp [intOf]; omega
    · obtain rfl : m = N.toNat - 1 := by omega
      obtain ⟨k, hk⟩ : ∃ k : Int, ((N.toNat - 1 + 1 : Nat) : Int) = k := ⟨_, rfl⟩
      have hge : N ≤ k := by omega
      rw [hk]
      clear hk
      have HW := Lib.hid hown
      clear hown
      go_wp2
      go_ret
      exact rowB_of (by rw [HV.out, evL_len]) (by rw [HV.out]; exact own_step HW.out (by (repeat (first | exact Below.refl _ _ | apply below_drewN | apply Below.drew | (refine Below.alloc ?_ (Nat.le_refl _) _))))) (In.below (by (repeat (first | exact In.refl _ | assumption | apply In.alloc | apply In.drewN | apply In.drew | (refine In.step ?_ (by assumption))))))
end Go.Proofs.Ythndjpklfgcpmaa
