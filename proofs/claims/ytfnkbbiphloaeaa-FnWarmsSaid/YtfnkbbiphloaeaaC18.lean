/- Chapter 18. -/
import Derived.Test.YtfnkbbiphloaeaaAll
import Derived.Defers
namespace Go.Proofs.Ytfnkbbiphloaeaa
open Go.ChangeShapes Go.WideShapes Go.ChangeAt Go.RowKit
set_option linter.unusedVariables false
set_option linter.unusedSimpArgs false

def ok18 (a b c d lo hi : Int) : Bool := inB a lo hi && inB b lo hi && inB c lo hi && inB d lo hi
theorem ok18_all (a b c d lo hi : Int) : allIn [a, b, c, d] lo hi 4 = ok18 a b c d lo hi := by simp [allIn, allOk, inAt, ok18]
theorem ok18_in {a b c d lo hi : Int} (h : ok18 a b c d lo hi = true) : lo ≤ a ∧ a ≤ hi ∧ lo ≤ b ∧ b ≤ hi ∧ lo ≤ c ∧ c ≤ hi ∧ lo ≤ d ∧ d ≤ hi := by
  simp only [ok18, Bool.and_eq_true] at h
  have h1 := inB_tt h.1.1.1
  have h2 := inB_tt h.1.1.2
  have h3 := inB_tt h.1.2
  have h4 := inB_tt h.2
  omega
def waterV (a b c d : Int) : Int := if ok18 a b c d (-20) 60 then 3 * a - b - c - d else -1000
def doughHV (a b c d : Int) : Int := if ok18 a b c d (-200) 200 then (a + b + c + d + 3000) / 3 - 1000 else -1000
theorem ireject (g : Nat) (lo hi : Int) (A : Option Addr) (n c : Nat) (xs : List Int) (u : FrameMode) (w : World) (hn : n ≤ maxLen) (hx : ReadsI w A n xs) (v : Value) (hc : w.cell? ⟨g, 0, none⟩ = some v) (hz : w.frozen? ⟨g, 0, none⟩ = false) :
    CallsD Try.prog 48 #[.pointer (some ⟨g, 0, none⟩), .int .i64 lo, .int .i64 hi, .slice A n c] u w fun e u' w' => u' = u ∧ (e = .returned (.tuple #[]) ∧ w' = if allIn xs lo hi n then w else w.setCell ⟨g, 0, none⟩ (.int .i64 (-1000))) := by
  go_enter_d Try.func48, Try.ntmps48
  go_wp2_with fail
  refine (iAll A n c xs lo hi _ hn hx).mono ?_
  rintro _ _ ⟨rfl, rfl⟩
  cases h : allIn xs lo hi n
  all_goals
    simp only [Bool.false_eq_true, if_false, if_true]
    go_wp2
    all_goals first | (exfalso; simp_all; done) | (go_end0; exact ⟨rfl, rfl⟩)
theorem door18 (F : Func) (hF : F.results = Try.f11.results) : True := trivial
def thirdW (x : Int) : Int := if x < 0 then wrap64 (-(wrap64 ((wrap64 (2 - x)).tdiv 3))) else wrap64 (x.tdiv 3)
theorem third_in {x : Int} (h : -3000 ≤ x ∧ x ≤ 3000) : thirdW x = (x + 3000) / 3 - 1000 := by
  unfold thirdW
  split
  · rw [w64 (x := 2 - x) (by omega), Int.tdiv_eq_ediv_of_nonneg (by omega), w64 (x := (2 - x) / 3) (by omega), w64 (by omega)]; omega
  · rw [Int.tdiv_eq_ediv_of_nonneg (by omega), w64 (by omega)]; omega
theorem ithirdOf (x : Int) (w : World) : Calls Try.prog 49 #[.int .i64 x] w (Same (i64 (thirdW x)) w) := by
  by_cases h : x < 0
  · go_enter Try.func49, Try.ntmps49
    go_wp2
    go_ret
    exact ⟨ret_int (by simp [thirdW, h]), rfl⟩
  · go_enter Try.func49, Try.ntmps49
    go_wp2
    go_ret
    exact ⟨ret_int (by rw [thirdW, if_neg (by omega)]), rfl⟩
set_option maxHeartbeats 1000000 in
theorem iWaterFor (a b c d : Int) (w : World) : Calls Try.prog 11 #[.int .i64 a, .int .i64 b, .int .i64 c, .int .i64 d] w (Val (i64 (waterV a b c d)) w) := by
  go_enter_defers Try.func11, Try.ntmps11
  go_wp2
  have hr : ReadsI ((w.alloc (Obj.cells #[Value.int IntKind.i64 (wrap64 (wrap64 (wrap64 (wrap64 (3 * a) - b) - c) - d))] 3)).alloc (Obj.cells #[.int .i64 a, .int .i64 b, .int .i64 c, .int .i64 d] 3)) (some ⟨w.heap.size + 1, 0, none⟩) 4 [a, b, c, d] := reads_at _ _ #[.int .i64 a, .int .i64 b, .int .i64 c, .int .i64 d] [a, b, c, d] _ (by simp) rfl
  generalize hR : wrap64 (wrap64 (wrap64 (wrap64 (3 * a) - b) - c) - d) = r at hr ⊢
  have kb : Blk ((w.alloc (Obj.cells #[.int .i64 r] 3)).alloc (Obj.cells #[.int .i64 a, .int .i64 b, .int .i64 c, .int .i64 d] 3)) w.heap.size 3 #[.int .i64 r] := (Blk.new w _ _).alloc _
  have hi : In w.heap.size w ((w.alloc (Obj.cells #[.int .i64 r] 3)).alloc (Obj.cells #[.int .i64 a, .int .i64 b, .int .i64 c, .int .i64 d] 3)) := by (repeat (first | exact In.refl _ | assumption | apply In.alloc | apply In.drewN | apply In.drew | (refine In.step ?_ (by assumption))))
  have hV : Hid (waterV a b c d = if allIn [a, b, c, d] (-20) 60 4 then r else -1000) := Lib.hid (by
    rw [ok18_all, waterV]
    cases h : ok18 a b c d (-20) 60
    · rfl
    · have := ok18_in h
      rw [← hR, w64 (x := 3 * a) (by omega), w64 (x := 3 * a - b) (by omega), w64 (x := 3 * a - b - c) (by omega), w64 (x := 3 * a - b - c - d) (by omega)])
  clear hR
  generalize (w.alloc (Obj.cells #[.int .i64 r] 3)).alloc (Obj.cells #[.int .i64 a, .int .i64 b, .int .i64 c, .int .i64 d] 3) = W at *
  have c0 : W.cell? ⟨w.heap.size, 0, none⟩ = some (.int .i64 r) := kb.cell 0
  refine leaves_cons (f := 48) (args := #[.pointer (some ⟨w.heap.size, 0, none⟩), .int .i64 (-20), .int .i64 60, .slice (some ⟨w.heap.size + 1, 0, none⟩) 4 4]) (by simp) (by simp [go_sem]) ?_
  refine (ireject w.heap.size (-20) 60 _ 4 4 [a, b, c, d] .returning W (by unfold maxLen; omega) hr _ c0 (kb.frozen 0)).mono ?_
  rintro e u' w'' ⟨rfl, rfl, rfl⟩
  cases h : allIn [a, b, c, d] (-20) 60 4
  · simp [Leaves, settle, results, Try.results11, go_sem, c0]
    exact Val.mk' (by rw [hV.out, h]; rfl) (hi.set_ (Nat.le_refl _) _)
  · simp [Leaves, settle, results, Try.results11, go_sem, c0]
    exact Val.mk' (by rw [hV.out, h]; rfl) hi
set_option maxHeartbeats 1000000 in
theorem iDoughHeat (a b c d : Int) (w : World) : Calls Try.prog 12 #[.int .i64 a, .int .i64 b, .int .i64 c, .int .i64 d] w (Val (i64 (doughHV a b c d)) w) := by
  go_enter_defers Try.func12, Try.ntmps12
  go_wp2_with fail
  refine (ithirdOf _ _).mono ?_
  rintro _ _ ⟨rfl, rfl⟩
  go_wp2
  have hr : ReadsI ((w.alloc (Obj.cells #[Value.int IntKind.i64 (thirdW (wrap64 (wrap64 (wrap64 (a + b) + c) + d)))] 3)).alloc (Obj.cells #[.int .i64 a, .int .i64 b, .int .i64 c, .int .i64 d] 3)) (some ⟨w.heap.size + 1, 0, none⟩) 4 [a, b, c, d] := reads_at _ _ #[.int .i64 a, .int .i64 b, .int .i64 c, .int .i64 d] [a, b, c, d] _ (by simp) rfl
  generalize hR : thirdW (wrap64 (wrap64 (wrap64 (a + b) + c) + d)) = r at hr ⊢
  have kb : Blk ((w.alloc (Obj.cells #[.int .i64 r] 3)).alloc (Obj.cells #[.int .i64 a, .int .i64 b, .int .i64 c, .int .i64 d] 3)) w.heap.size 3 #[.int .i64 r] := (Blk.new w _ _).alloc _
  have hi : In w.heap.size w ((w.alloc (Obj.cells #[.int .i64 r] 3)).alloc (Obj.cells #[.int .i64 a, .int .i64 b, .int .i64 c, .int .i64 d] 3)) := by (repeat (first | exact In.refl _ | assumption | apply In.alloc | apply In.drewN | apply In.drew | (refine In.step ?_ (by assumption))))
  have hV : Hid (doughHV a b c d = if allIn [a, b, c, d] (-200) 200 4 then r else -1000) := Lib.hid (by
    rw [ok18_all, doughHV]
    cases h : ok18 a b c d (-200) 200
    · rfl
    · have := ok18_in h
      rw [← hR, w64 (x := a + b) (by omega), w64 (x := a + b + c) (by omega), w64 (x := a + b + c + d) (by omega), third_in (by omega)])
  clear hR
  generalize (w.alloc (Obj.cells #[.int .i64 r] 3)).alloc (Obj.cells #[.int .i64 a, .int .i64 b, .int .i64 c, .int .i64 d] 3) = W at *
  have c0 : W.cell? ⟨w.heap.size, 0, none⟩ = some (.int .i64 r) := kb.cell 0
  refine leaves_cons (f := 48) (args := #[.pointer (some ⟨w.heap.size, 0, none⟩), .int .i64 (-200), .int .i64 200, .slice (some ⟨w.heap.size + 1, 0, none⟩) 4 4]) (by simp) (by simp [go_sem]) ?_
  refine (ireject w.heap.size (-200) 200 _ 4 4 [a, b, c, d] .returning W (by unfold maxLen; omega) hr _ c0 (kb.frozen 0)).mono ?_
  rintro e u' w'' ⟨rfl, rfl, rfl⟩
  cases h : allIn [a, b, c, d] (-200) 200 4
  · simp [Leaves, settle, results, Try.results12, go_sem, c0]
    exact Val.mk' (by rw [hV.out, h]; rfl) (hi.set_ (Nat.le_refl _) _)
  · simp [Leaves, settle, results, Try.results12, go_sem, c0]
    exact Val.mk' (by rw [hV.out, h]; rfl) hi
def reachB (a b c d : Int) : Bool := inB (waterV a b c d) 1 60
theorem iCanReach (a b c d : Int) (w : World) : Calls Try.prog 13 #[.int .i64 a, .int .i64 b, .int .i64 c, .int .i64 d] w (Val (.bool (reachB a b c d)) w) := by
  go_enter Try.func13, Try.ntmps13
  go_wp2_with fail
  refine (iWaterFor a b c d _).mono ?_
  rintro _ w1 ⟨rfl, hb1⟩

  go_wp2_with (first | (go_at_call 50; refine (iIn _ _ _ _).mono ?_; rintro e w' ⟨rfl, rfl⟩) | go_in | (go_end0; simp only []; go_at_K))
  go_ret
  exact Val.mk' rfl (by (repeat (first | exact In.refl _ | assumption | apply In.alloc | apply In.drewN | apply In.drew | (refine In.step ?_ (by assumption)))))
def iceV (a g : Int) : Int := if inB a 0 60 && inB g 0 100000 then (if 20 ≤ a then 0 else ((20 - a) * g + 79 + (20 - a)) / (80 + (20 - a))) else -1
theorem ice_in {x g : Int} (h1 : 0 ≤ x) (h2 : x ≤ 20) (h3 : 0 ≤ g) (h4 : g ≤ 100000) : 0 ≤ x * g ∧ x * g ≤ 2000000 := mul_in h1 h2 h3 h4
theorem iIceFor (a g : Int) (w : World) : Calls Try.prog 14 #[.int .i64 a, .int .i64 g] w (Same (i64 (iceV a g)) w) := by
  cases h1 : inB a 0 60
  · have HV : Hid (iceV a g = -1) := Lib.hid (by simp [iceV, h1])
    go_enter Try.func14, Try.ntmps14
    go_wp2_with (first | (go_at_call 50; refine (iIn _ _ _ _).mono ?_; rintro e w' ⟨rfl, rfl⟩) | go_in | (go_end0; simp only []; go_at_K))
    go_ret
    exact ⟨ret_int HV.out.symm, rfl⟩
  cases h2 : inB g 0 100000
  · have HV : Hid (iceV a g = -1) := Lib.hid (by simp [iceV, h2])
    go_enter Try.func14, Try.ntmps14
    go_wp2_with (first | (go_at_call 50; refine (iIn _ _ _ _).mono ?_; rintro e w' ⟨rfl, rfl⟩) | go_in | (go_end0; simp only []; go_at_K))
    go_ret
    exact ⟨ret_int HV.out.symm, rfl⟩
  obtain ⟨a1, a2⟩ := inB_tt h1
  obtain ⟨g1, g2⟩ := inB_tt h2
  by_cases h3 : 20 ≤ a
  · have HV : Hid (iceV a g = 0) := Lib.hid (by simp [iceV, h1, h2, h3])
    go_enter Try.func14, Try.ntmps14
    go_wp2_with (first | (go_at_call 50; refine (iIn _ _ _ _).mono ?_; rintro e w' ⟨rfl, rfl⟩) | go_in | (go_end0; simp only []; go_at_K))
    go_ret
    exact ⟨ret_int HV.out.symm, rfl⟩
  have HV : Hid (iceV a g = ((20 - a) * g + 79 + (20 - a)) / (80 + (20 - a))) := Lib.hid (by simp [iceV, h1, h2, h3])
  obtain ⟨m1, m2⟩ := ice_in (x := 20 - a) (g := g) (by omega) (by omega) g1 g2
  obtain ⟨x, hx⟩ : ∃ x, x = 20 - a := ⟨_, rfl⟩
  have hq : 80 + x ≠ 0 := by omega
  rw [← hx] at HV m1 m2
  have hx' : 20 - a = x := hx.symm
  have hx0 : 0 < x ∧ x ≤ 20 := by omega
  obtain ⟨x1, x2⟩ := hx0
  have hw : wrap64 (20 - a) = x := by rw [hx']; exact w64 (by omega)
  have hw2 : IntKind.i64.wrap (20 - a) = x := by rw [hx']; exact IntWalk.i64_in _ (by omega)
  have hn : 0 ≤ x * g + 79 + x := by omega
  clear hx
  go_enter Try.func14, Try.ntmps14
  go_wp2_with (first | (go_at_call 50; refine (iIn _ _ _ _).mono ?_; rintro e w' ⟨rfl, rfl⟩) | go_in | (go_end0; simp only []; go_at_K))
  go_ret
  exact ⟨ret_int (by rw [HV.out] <;> (congr 1; omega)), rfl⟩
def hotN (a c d : Int) : Nat → Int
  | 0 => -1000
  | k + 1 => if reachB a ((k : Int) - 20) c d then (k : Int) - 20 else hotN a c d k
theorem iHottestFlour (a c d : Int) (w : World) : Calls Try.prog 15 #[.int .i64 a, .int .i64 c, .int .i64 d] w (Val (i64 (hotN a c d 81)) w) := by
  go_enter Try.func15, Try.ntmps15
  go_wp2
  go_loopw [7] (fun f wr => ∃ k : Nat, (k : Int) ≤ 81 ∧ f = .int .i64 ((k : Int) - 21) ∧ In w.heap.size w wr ∧ hotN a c d 81 = hotN a c d k) (fun f _ => (intOf f + 21).toNat)
  case atStart => exact ⟨81, by decide, rfl, In.refl _, rfl⟩
  case round =>
    obtain ⟨k, hk, rfl, hi, hv⟩ := hrel
    have HV := Lib.hid hv
    clear hv
    by_cases hlt : (k : Int) - 21 < -20
    · obtain rfl : k = 0 := by omega
      go_wp2
      go_ret
      exact Val.mk' (v_int HV.out.symm) (by (repeat (first | exact In.refl _ | assumption | apply In.alloc | apply In.drewN | apply In.drew | (refine In.step ?_ (by assumption)))))
    · obtain ⟨m, rfl⟩ : ∃ m, k = m + 1 := ⟨k - 1, by omega⟩
      obtain ⟨f, hf⟩ : ∃ f : Int, f = (m : Int) - 20 := ⟨_, rfl⟩
      have HF := Lib.hid hf
      have e : ((m + 1 : Nat) : Int) - 21 = f := by omega
      have HS : Hid (hotN a c d (m + 1) = if reachB a f c d then f else hotN a c d m) := Lib.hid (by rw [hf]; rfl)
      have hf1 : -20 ≤ f ∧ f ≤ 60 := by omega
      obtain ⟨f1, f2⟩ := hf1
      rw [e] at hlt ⊢
      clear hf e
      go_wp2_with fail
      refine (iCanReach a f c d _).mono ?_
      rintro _ w1 ⟨rfl, hb1⟩
      have i1 : In w.heap.size w w1 := In.step (by (repeat (first | exact In.refl _ | assumption | apply In.alloc | apply In.drewN | apply In.drew | (refine In.step ?_ (by assumption))))) hb1
      clear hb1 hi
      cases hr : reachB a f c d
      · go_wp2
        go_roundw
        case rel => exact ⟨m, by omega, v_int (by have := HF.out; omega), i1, by rw [HV.out, HS.out, hr]; rfl⟩
        case measure => simp [intOf]; omega
      · go_wp2
        go_ret
        exact Val.mk' (v_int (by rw [HV.out, HS.out, hr]; rfl)) (by (repeat (first | exact In.refl _ | assumption | apply In.alloc | apply In.drewN | apply In.drew | (refine In.step ?_ (by assumption)))))
end Go.Proofs.Ytfnkbbiphloaeaa
