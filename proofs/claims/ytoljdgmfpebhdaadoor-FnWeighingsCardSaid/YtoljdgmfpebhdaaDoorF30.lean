/- Chapter 30: FlourOf. -/
import Derived.Test.YtoljdgmfpebhdaaDoorE30
import Derived.Test.YtoljdgmfpebhdaaDoorQuiet
namespace Go.Proofs.YtoljdgmfpebhdaaDoor
open Go.ChangeShapes Go.WideShapes Go.ChangeAt Go.RowKit
set_option linter.unusedVariables false
set_option linter.unusedSimpArgs false
set_option maxHeartbeats 2000000

def fofV (a b c g : Int) : Value := if dOk a b c && inB g 0 1000000 && (weightV a b c (fstN (wP a b c g) g.toNat) == g) then .tuple #[.int .i64 (fstN (wP a b c g) g.toNat), .bool true] else .tuple #[.int .i64 0, .bool false]
theorem wP_mono {a b c g : Int} (hd : dOk a b c = true) (x y : Int) (h0 : 0 ≤ x) (h1 : x ≤ y) (h2 : y ≤ 1000000) (h : wP a b c g x = true) : wP a b c g y = true := by
  unfold wP at *
  simp only [decide_eq_true_eq] at *
  have := weight_mono (a := a) (b := b) (c := c) hd h0 h1 h2
  omega
theorem fof_yes {a b c g f : Int} (hd : dOk a b c = true) (hg : inB g 0 1000000 = true) (hf : IsFst (wP a b c g) g f) (hw : weightV a b c f = g) : fofV a b c g = .tuple #[.int .i64 f, .bool true] := by
  rw [fofV, ← hf.eq, if_pos (by simp [hd, hg, hw])]
theorem fof_no {a b c g f : Int} (hf : IsFst (wP a b c g) g f) (hw : ¬ weightV a b c f = g) : fofV a b c g = .tuple #[.int .i64 0, .bool false] := by
  rw [fofV, ← hf.eq, if_neg (by simp [hw])]
/-- what the search up to the greatest flour finds is what the search up to the weight finds -/
theorem fst_of {a b c g f : Int} (hd : dOk a b c = true) (hg : 0 ≤ g) (hg' : g ≤ 1000000) (h : IsFst (wP a b c g) 1000000 f) : IsFst (wP a b c g) g f := by
  obtain ⟨h0, h1, h2, h3⟩ := h
  have hle : f ≤ g := by
    rcases (Decidable.em (g < f)) with h | h
    · have := h2 g hg h
      have hw := weight_ge hd hg hg'
      simp [wP] at this
      omega
    · omega
  exact ⟨h0, hle, h2, fun h => h3 (by omega)⟩
set_option maxRecDepth 20000 in
theorem iFl (a b c g : Int) (gd gw : Nat) (x : Int) (w : World) (kd : Blk w gd 34 #[.int .i64 a, .int .i64 b, .int .i64 c]) (kw : Blk w gw 3 #[.int .i64 g]) :
    Calls Tryd.prog 51 #[.int .i64 x, .pointer (some ⟨gd, 0, none⟩), .pointer (some ⟨gw, 0, none⟩)] w (Val (.bool (wP a b c g x)) w) := by
  have d0 : w.cell? ⟨gd, 0, none⟩ = some (.int .i64 a) := kd.cell 0
  have d1 : w.cell? ⟨gd, 1, none⟩ = some (.int .i64 b) := kd.cell 1
  have d2 : w.cell? ⟨gd, 2, none⟩ = some (.int .i64 c) := kd.cell 2
  have e0 : w.cell? ⟨gw, 0, none⟩ = some (.int .i64 g) := kw.cell 0
  go_enter Tryd.func51, Tryd.ntmps51
  go_wp2
  refine wp_region_S (C := (fun w' => In w.heap.size w w' ∧ w'.cell? ⟨gd, 0, none⟩ = some (.int .i64 a) ∧ w'.cell? ⟨gd, 1, none⟩ = some (.int .i64 b) ∧ w'.cell? ⟨gd, 2, none⟩ = some (.int .i64 c) ∧ w'.cell? ⟨gw, 0, none⟩ = some (.int .i64 g))) (by kernel_rfl) (by kernel_rfl) ?_ ?_
  · exact held_c4 d0 d1 d2 e0 (by (repeat (first | exact In.refl _ | assumption | apply In.alloc | apply In.drewN | apply In.drew | (refine In.step ?_ (by assumption)))))
  repeat (first | go_big_quiet_skip | (go_big_quiet_want; first | (refine quiet_ex ?_; apply Exists.intro; refine ⟨fun W hW => ?_, ?_⟩; (· (obtain ⟨i1, f0, f1, f2, f3⟩ := hW; go_simp; (first | done | with_reducible rfl | rfl))); simp only [Act.put, List.setIfInBounds_toArray, List.set_cons_zero, List.set_cons_succ]; go_big_quiet_on) | (refine quiet_ex ?_; apply Exists.intro; refine ⟨fun W hW => ?_, ?_⟩; (· (go_simp; first | (go_at_call 41; (with_reducible refine (iDoughWeight a b c x _).mono ?_); rintro e w2 ⟨rfl, hb2⟩; exact ⟨rfl, held_c4 d0 d1 d2 e0 (In.step hW.1 hb2)⟩))); simp only [Act.put, List.setIfInBounds_toArray, List.set_cons_zero, List.set_cons_succ]; go_big_quiet_on)))
  refine wpQuiet_nil ?_
  rintro w' ⟨i1, f0, f1, f2, f3⟩
  go_wp2
  go_ret
  exact Val.mk' (v_bool rfl) (by (repeat (first | exact In.refl _ | assumption | apply In.alloc | apply In.drewN | apply In.drew | (refine In.step ?_ (by assumption)))))
theorem iSearchFl (gd gw : Nat) (p : Int → Bool) (N : Int) (w : World) (h0 : 0 ≤ N) (h1 : N ≤ 1000000000) (hm : ∀ a b, 0 ≤ a → a ≤ b → b < N → p a = true → p b = true)
    (hF : ∀ (i : Int) (w' : World), 0 ≤ i → i < N → In w.heap.size w w' → Calls Tryd.prog 51 #[.int .i64 i, .pointer (some ⟨gd, 0, none⟩), .pointer (some ⟨gw, 0, none⟩)] w' (Val (.bool (p i)) w')) :
    Calls Tryd.prog 50 #[.int .i64 N, .func (Fn.func 51) #[] #[.pointer (some ⟨gd, 0, none⟩), .pointer (some ⟨gw, 0, none⟩)]] w (Fst p N w) := by
  have HM := Lib.hid hm
  have HF := Lib.hid hF
  clear hm hF
  go_enter Tryd.func50, Tryd.ntmps50
  go_wp2
  go_loopw [5, 6] (fun s t wr => ∃ (i j : Int), 0 ≤ i ∧ i ≤ j ∧ j ≤ N ∧ s = .int .i64 i ∧ t = .int .i64 j ∧ In w.heap.size w wr ∧ (j < N → p j = true) ∧ ∀ x, 0 ≤ x → x < i → p x = false) (fun s t _ => (intOf t - intOf s).toNat)
  case atStart => exact ⟨0, N, by omega, by omega, by omega, rfl, rfl, by (repeat (first | exact In.refl _ | assumption | apply In.alloc | apply In.drewN | apply In.drew | (refine In.step ?_ (by assumption)))), fun h => by omega, fun x h1 h2 => by omega⟩
  case round =>
    obtain ⟨i, j, i1, i2, i3, rfl, rfl, hi, hj, hx⟩ := hrel
    have HJ := Lib.hid hj
    have HI := Lib.hid hx
    clear hj hx
    by_cases hlt : i < j
    · cases ht : p ((i + j) / 2)
      · have HTT := Lib.hid ht
        clear ht
        go_wp2_with fail
        refine (HF.out ((i + j) / 2) _ (by omega) (by omega) (by (repeat (first | exact In.refl _ | assumption | apply In.alloc | apply In.drewN | apply In.drew | (refine In.step ?_ (by assumption)))))).mono ?_
        rintro _ w1 ⟨rfl, hb1⟩
        rw [HTT.out]
        go_wp2
        go_roundw
        case rel => exact ⟨(i + j) / 2 + 1, j, by omega, by omega, by omega, rfl, rfl, by (repeat (first | exact In.refl _ | assumption | apply In.alloc | apply In.drewN | apply In.drew | (refine In.step ?_ (by assumption)))), HJ.out, fun x h1 h2 => by
          cases hp : p x
          · rfl
          · have := HM.out x ((i + j) / 2) h1 (by omega) (by omega) hp
            rw [HTT.out] at this; cases this⟩
        case measure => simp [intOf]; omega
      · have HTT := Lib.hid ht
        clear ht
        go_wp2_with fail
        refine (HF.out ((i + j) / 2) _ (by omega) (by omega) (by (repeat (first | exact In.refl _ | assumption | apply In.alloc | apply In.drewN | apply In.drew | (refine In.step ?_ (by assumption)))))).mono ?_
        rintro _ w1 ⟨rfl, hb1⟩
        rw [HTT.out]
        go_wp2
        go_roundw
        case rel => exact ⟨i, (i + j) / 2, by omega, by omega, by omega, rfl, rfl, by (repeat (first | exact In.refl _ | assumption | apply In.alloc | apply In.drewN | apply In.drew | (refine In.step ?_ (by assumption)))), fun _ => HTT.out, HI.out⟩
        case measure => simp [intOf]; omega
    · obtain rfl : i = j := by omega
      go_wp2
      go_ret
      exact ⟨i, rfl, ⟨i1, i3, HI.out, HJ.out⟩, In.below (by (repeat (first | exact In.refl _ | assumption | apply In.alloc | apply In.drewN | apply In.drew | (refine In.step ?_ (by assumption)))))⟩
set_option maxRecDepth 20000 in
theorem iFlourOf (a b c g : Int) (w : World) : Calls Tryd.prog 28 #[.agg #[.int .i64 a, .int .i64 b, .int .i64 c], .int .i64 g] w (Val (fofV a b c g) w) := by
  go_enter Tryd.func28, Tryd.ntmps28
  go_wp2_with (first | (go_at_call 30; refine (sIn _ _ _ _).mono ?_; rintro e w' ⟨rfl, rfl⟩) | (go_at_call 37; refine (iIn _ _ _ _).mono ?_; rintro e w' ⟨rfl, rfl⟩))
  refine (iok a b c _).mono ?_
  rintro _ w_1 ⟨rfl, hb_1⟩
  have i_1 : In w.heap.size w w_1 := In.step (by (repeat (first | exact In.refl _ | assumption | apply In.alloc | apply In.drewN | apply In.drew | (refine In.step ?_ (by assumption))))) hb_1
  have k_1_A : Blk w_1 (w.heap.size) 34 #[.int .i64 a, .int .i64 b, .int .i64 c] := Blk.step (by (with_reducible (repeat (first | assumption | exact Blk.new' (by simp) | apply Blk.drewN | apply Blk.drew | apply Blk.alloc | (refine Blk.far ?_ (by (try simp) <;> omega) _))))) hb_1
  have c_1_A_0 : w_1.cell? ⟨w.heap.size, 0, none⟩ = some (.int .i64 a) := k_1_A.cell 0
  have c_1_A_1 : w_1.cell? ⟨w.heap.size, 1, none⟩ = some (.int .i64 b) := k_1_A.cell 1
  have c_1_A_2 : w_1.cell? ⟨w.heap.size, 2, none⟩ = some (.int .i64 c) := k_1_A.cell 2
  have l_1_A := k_1_A.lt
  have k_1_G : Blk w_1 (w.heap.size + 1) 3 #[.int .i64 g] := Blk.step (by (with_reducible (repeat (first | assumption | exact Blk.new' (by simp) | apply Blk.drewN | apply Blk.drew | apply Blk.alloc | (refine Blk.far ?_ (by (try simp) <;> omega) _))))) hb_1
  have c_1_G_0 : w_1.cell? ⟨w.heap.size + 1, 0, none⟩ = some (.int .i64 g) := k_1_G.cell 0
  have l_1_G := k_1_G.lt
  cases h1 : dOk a b c
  · have HV : Hid (fofV a b c g = .tuple #[.int .i64 0, .bool false]) := Lib.hid (by simp [fofV, h1])
    go_wp2_with (first | (go_at_call 30; refine (sIn _ _ _ _).mono ?_; rintro e w' ⟨rfl, rfl⟩) | (go_at_call 37; refine (iIn _ _ _ _).mono ?_; rintro e w' ⟨rfl, rfl⟩))
    exact bodyPost_ret (v := .tuple #[.int .i64 0, .bool false]) (by simp [results, Tryd.results28, go_sem]) rfl (Val.mk' (by rw [HV.out]) (by (repeat (first | exact In.refl _ | assumption | apply In.alloc | apply In.drewN | apply In.drew | (refine In.step ?_ (by assumption)) | (refine In.set_ ?_ (by (try simp) <;> omega) _)))))
  cases h2 : inB g 0 1000000
  · have HV : Hid (fofV a b c g = .tuple #[.int .i64 0, .bool false]) := Lib.hid (by simp [fofV, h2])
    go_wp2_with (first | (go_at_call 30; refine (sIn _ _ _ _).mono ?_; rintro e w' ⟨rfl, rfl⟩) | (go_at_call 37; refine (iIn _ _ _ _).mono ?_; rintro e w' ⟨rfl, rfl⟩))
    exact bodyPost_ret (v := .tuple #[.int .i64 0, .bool false]) (by simp [results, Tryd.results28, go_sem]) rfl (Val.mk' (by rw [HV.out]) (by (repeat (first | exact In.refl _ | assumption | apply In.alloc | apply In.drewN | apply In.drew | (refine In.step ?_ (by assumption)) | (refine In.set_ ?_ (by (try simp) <;> omega) _)))))
  obtain ⟨g1, g2⟩ := inB_tt h2
  have HM := Lib.hid (wP_mono (g := g) h1)
  have h1H := Lib.hid h1
  have h2H := Lib.hid h2
  go_wp2_with (first | (go_at_call 30; refine (sIn _ _ _ _).mono ?_; rintro e w' ⟨rfl, rfl⟩) | (go_at_call 37; refine (iIn _ _ _ _).mono ?_; rintro e w' ⟨rfl, rfl⟩))
  refine (iSearchFl w.heap.size (w.heap.size + 1) (wP a b c g) g _ g1 (by omega) (fun x y h3 h4 h5 h6 => HM.out x y h3 h4 (by omega) h6) (fun x w' h3 h4 hi => iFl a b c g w.heap.size (w.heap.size + 1) x w' (Blk.below (by (with_reducible (repeat (first | assumption | exact Blk.new' (by simp) | apply Blk.drewN | apply Blk.drew | apply Blk.alloc | (refine Blk.far ?_ (by (try simp) <;> omega) _))))) hi.below (Blk.lt (by (with_reducible (repeat (first | assumption | exact Blk.new' (by simp) | apply Blk.drewN | apply Blk.drew | apply Blk.alloc | (refine Blk.far ?_ (by (try simp) <;> omega) _))))))) (Blk.below (by (with_reducible (repeat (first | assumption | exact Blk.new' (by simp) | apply Blk.drewN | apply Blk.drew | apply Blk.alloc | (refine Blk.far ?_ (by (try simp) <;> omega) _))))) hi.below (Blk.lt (by (with_reducible (repeat (first | assumption | exact Blk.new' (by simp) | apply Blk.drewN | apply Blk.drew | apply Blk.alloc | (refine Blk.far ?_ (by (try simp) <;> omega) _))))))))).mono ?_
  rintro _ w_2 ⟨f, rfl, hf, hb_2⟩
  have i_2 : In w.heap.size w w_2 := In.step (by (repeat (first | exact In.refl _ | assumption | apply In.alloc | apply In.drewN | apply In.drew | (refine In.step ?_ (by assumption))))) hb_2
  have k_2_A : Blk w_2 (w.heap.size) 34 #[.int .i64 a, .int .i64 b, .int .i64 c] := Blk.step (by (with_reducible (repeat (first | assumption | exact Blk.new' (by simp) | apply Blk.drewN | apply Blk.drew | apply Blk.alloc | (refine Blk.far ?_ (by (try simp) <;> omega) _))))) hb_2
  have c_2_A_0 : w_2.cell? ⟨w.heap.size, 0, none⟩ = some (.int .i64 a) := k_2_A.cell 0
  have c_2_A_1 : w_2.cell? ⟨w.heap.size, 1, none⟩ = some (.int .i64 b) := k_2_A.cell 1
  have c_2_A_2 : w_2.cell? ⟨w.heap.size, 2, none⟩ = some (.int .i64 c) := k_2_A.cell 2
  have l_2_A := k_2_A.lt
  have k_2_G : Blk w_2 (w.heap.size + 1) 3 #[.int .i64 g] := Blk.step (by (with_reducible (repeat (first | assumption | exact Blk.new' (by simp) | apply Blk.drewN | apply Blk.drew | apply Blk.alloc | (refine Blk.far ?_ (by (try simp) <;> omega) _))))) hb_2
  have c_2_G_0 : w_2.cell? ⟨w.heap.size + 1, 0, none⟩ = some (.int .i64 g) := k_2_G.cell 0
  have l_2_G := k_2_G.lt
  clear hb_1 i_1 k_1_A c_1_A_0 c_1_A_1 c_1_A_2 l_1_A k_1_G c_1_G_0 l_1_G
  have HF := Lib.hid hf
  clear hf
  go_wp2_with (first | (go_at_call 30; refine (sIn _ _ _ _).mono ?_; rintro e w' ⟨rfl, rfl⟩) | (go_at_call 37; refine (iIn _ _ _ _).mono ?_; rintro e w' ⟨rfl, rfl⟩))
  refine wp_region_S (C := (fun w' => In w.heap.size w w' ∧ w'.cell? ⟨w.heap.size, 0, none⟩ = some (.int .i64 a) ∧ w'.cell? ⟨w.heap.size, 1, none⟩ = some (.int .i64 b) ∧ w'.cell? ⟨w.heap.size, 2, none⟩ = some (.int .i64 c) ∧ w'.cell? ⟨w.heap.size + 1, 0, none⟩ = some (.int .i64 g))) (by kernel_rfl) (by kernel_rfl) ?_ ?_
  · exact held_d4 c_2_A_0 c_2_A_1 c_2_A_2 c_2_G_0 i_2 (In.drew (In.refl _))
  repeat (first | go_big_quiet_skip | (go_big_quiet_want; first | (refine quiet_ex ?_; apply Exists.intro; refine ⟨fun W hW => ?_, ?_⟩; (· (obtain ⟨i3, f0, f1, f2, f3⟩ := hW; go_simp; (first | done | with_reducible rfl | rfl))); simp only [Act.put, List.setIfInBounds_toArray, List.set_cons_zero, List.set_cons_succ]; go_big_quiet_on) | (refine quiet_ex ?_; apply Exists.intro; refine ⟨fun W hW => ?_, ?_⟩; (· (go_simp; first | (go_at_call 41; (with_reducible refine (iDoughWeight a b c f _).mono ?_); rintro e w3 ⟨rfl, hb3⟩; exact ⟨rfl, held_s4 hW hb3⟩))); simp only [Act.put, List.setIfInBounds_toArray, List.set_cons_zero, List.set_cons_succ]; go_big_quiet_on)))
  refine wpQuiet_nil ?_
  rintro w' ⟨i3, f0, f1, f2, f3⟩
  cases hw : (weightV a b c f == g : Bool)
  case false =>
    have hw2 : (weightV a b c f != g) = true := by simpa using hw
    have HV : Hid (fofV a b c g = .tuple #[.int .i64 0, .bool false]) := Lib.hid (fof_no HF.out (by simpa using hw))
    clear i_2 k_2_A k_2_G
    go_wp2
    exact bodyPost_ret (v := .tuple #[.int .i64 0, .bool false]) (by simp [results, Tryd.results28, go_sem]) rfl (Val.mk' (by rw [HV.out]) (by (repeat (first | exact In.refl _ | assumption | apply In.alloc | apply In.drewN | apply In.drew | (refine In.step ?_ (by assumption)) | (refine In.set_ ?_ (by (try simp) <;> omega) _)))))
  have hw2 : (weightV a b c f != g) = false := by simpa using hw
  have HV : Hid (fofV a b c g = .tuple #[.int .i64 f, .bool true]) := Lib.hid (fof_yes h1H.out h2H.out HF.out (by simpa using hw))
  clear i_2 k_2_A k_2_G
  go_wp2
  exact bodyPost_ret (v := .tuple #[.int .i64 f, .bool true]) (by simp [results, Tryd.results28, go_sem]) rfl (Val.mk' (by rw [HV.out]) (by (repeat (first | exact In.refl _ | assumption | apply In.alloc | apply In.drewN | apply In.drew | (refine In.step ?_ (by assumption)) | (refine In.set_ ?_ (by (try simp) <;> omega) _)))))
end Go.Proofs.YtoljdgmfpebhdaaDoor
