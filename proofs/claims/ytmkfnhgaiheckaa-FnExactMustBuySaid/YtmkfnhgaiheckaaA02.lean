/- Chapter 2: Amounts and DoughWeight. -/
import Derived.Test.YtmkfnhgaiheckaaC02
import Derived.Test.YtmkfnhgaiheckaaIntR
import Derived.Test.YtmkfnhgaiheckaaIn
import Derived.Outline
namespace Go.Proofs.Ytmkfnhgaiheckaa
open Go.ChangeShapes Go.WideShapes Go.ChangeAt Go.RowKit
set_option linter.unusedVariables false
set_option linter.unusedSimpArgs false

theorem dheld {w w' : World} {a b c : Int} (h : In w.heap.size w w') (k : Blk w' w.heap.size 164 #[.int .i64 a, .int .i64 b, .int .i64 c]) :
    In w.heap.size w w' ∧ Blk w' w.heap.size 164 #[.int .i64 a, .int .i64 b, .int .i64 c] ∧ w'.cell? ⟨w.heap.size, 0, none⟩ = some (.int .i64 a) ∧ w'.cell? ⟨w.heap.size, 1, none⟩ = some (.int .i64 b) ∧ w'.cell? ⟨w.heap.size, 2, none⟩ = some (.int .i64 c) :=
  ⟨h, k, k.cell 0, k.cell 1, k.cell 2⟩
theorem dheld_step {w w0 w' : World} {a b c : Int} (hb : Below w0.heap.size w0 w') (h : In w.heap.size w w0 ∧ Blk w0 w.heap.size 164 #[.int .i64 a, .int .i64 b, .int .i64 c] ∧ w0.cell? ⟨w.heap.size, 0, none⟩ = some (.int .i64 a) ∧ w0.cell? ⟨w.heap.size, 1, none⟩ = some (.int .i64 b) ∧ w0.cell? ⟨w.heap.size, 2, none⟩ = some (.int .i64 c)) :
    In w.heap.size w w' ∧ Blk w' w.heap.size 164 #[.int .i64 a, .int .i64 b, .int .i64 c] ∧ w'.cell? ⟨w.heap.size, 0, none⟩ = some (.int .i64 a) ∧ w'.cell? ⟨w.heap.size, 1, none⟩ = some (.int .i64 b) ∧ w'.cell? ⟨w.heap.size, 2, none⟩ = some (.int .i64 c) :=
  dheld (h.1.step hb) (Blk.step h.2.1 hb)

theorem dheld_alloc {w w0 : World} {o : Obj} {a b c : Int} (h : In w.heap.size w w0 ∧ Blk w0 w.heap.size 164 #[.int .i64 a, .int .i64 b, .int .i64 c] ∧ w0.cell? ⟨w.heap.size, 0, none⟩ = some (.int .i64 a) ∧ w0.cell? ⟨w.heap.size, 1, none⟩ = some (.int .i64 b) ∧ w0.cell? ⟨w.heap.size, 2, none⟩ = some (.int .i64 c)) :
    In w.heap.size w (w0.alloc o) ∧ Blk (w0.alloc o) w.heap.size 164 #[.int .i64 a, .int .i64 b, .int .i64 c] ∧ (w0.alloc o).cell? ⟨w.heap.size, 0, none⟩ = some (.int .i64 a) ∧ (w0.alloc o).cell? ⟨w.heap.size, 1, none⟩ = some (.int .i64 b) ∧ (w0.alloc o).cell? ⟨w.heap.size, 2, none⟩ = some (.int .i64 c) :=
  dheld (h.1.alloc _) (h.2.1.alloc _)

/-- what a call answers that builds a row of ints and returns it -/
def RowL (zs : List Int) (w : World) (e : Ending) (w' : World) : Prop :=
  ∃ g, e = .returned (.slice (some ⟨g, 0, none⟩) zs.length zs.length) ∧ w'.ownsRow w.heap.size 3 1 (.slice (some ⟨g, 0, none⟩) zs.length zs.length) zs.length (iv zs) ∧ Below w.heap.size w w'
theorem rowL_lit {a w : World} (cs : Array Value) (n : Nat) (zs : List Int) (h : In a.heap.size a w) (hz : cs.toList = iv zs) (hn : n = zs.length) (hm : n ≤ maxLen) :
    RowL zs a (.returned (.slice (some ⟨w.heap.size, 0, none⟩) n n)) (w.alloc (.cells cs 3)) := by
  have hs : cs.size = n := by rw [← Array.length_toList, hz, iv_len, hn]
  have := own_lit w 3 cs n a.heap.size hs h.size hm
  subst hn
  refine ⟨w.heap.size, rfl, ?_, (h.alloc _).below⟩
  rw [← hz]; exact this
theorem rowL_in {a w w' : World} {g : Nat} {zs : List Int} (h : In a.heap.size a w) (ho : w'.ownsRow w.heap.size 3 1 (.slice (some ⟨g, 0, none⟩) zs.length zs.length) zs.length (iv zs)) (hb : Below w.heap.size w w') :
    RowL zs a (.returned (.slice (some ⟨g, 0, none⟩) zs.length zs.length)) w' := ⟨g, rfl, own_base ho h.size, (h.step hb).below⟩
theorem RowL.rowB {zs : List Int} {w w' : World} {e : Ending} (h : RowL zs w e w') : RowB zs w e w' := by
  obtain ⟨g, he, ho, hb⟩ := h
  exact ⟨_, _, he, ho, hb⟩

set_option maxHeartbeats 1000000 in
theorem iamounts (a b c f : Int) (w : World) : Calls Try.prog 193 #[.agg #[.int .i64 a, .int .i64 b, .int .i64 c], .int .i64 f] w (RowL [f, partV f a, partV f b, partV f c] w) := by
  have q0 : Blk (w.alloc (.cells #[.int .i64 a, .int .i64 b, .int .i64 c] 164)) w.heap.size 164 #[.int .i64 a, .int .i64 b, .int .i64 c] := Blk.new w _ _
  go_enter Try.func193, Try.ntmps193
  go_wp2
  go_region_held3 (fun w' => In w.heap.size w w' ∧ Blk w' w.heap.size 164 #[.int .i64 a, .int .i64 b, .int .i64 c] ∧ w'.cell? ⟨w.heap.size, 0, none⟩ = some (.int .i64 a) ∧ w'.cell? ⟨w.heap.size, 1, none⟩ = some (.int .i64 b) ∧ w'.cell? ⟨w.heap.size, 2, none⟩ = some (.int .i64 c))
    (first | assumption | exact dheld_step hb1 (by assumption) | exact dheld_alloc (by assumption) | exact dheld (by (repeat (first | exact In.refl _ | assumption | apply In.alloc | apply In.drewN | apply In.drew | (refine In.step ?_ (by assumption))))) (by (with_reducible (repeat (first | assumption | apply Blk.drewN | apply Blk.drew | apply Blk.alloc)))))
    (first | (go_at_call 202; ((with_reducible refine (iPartOf f a _).mono ?_); rintro e w1 ⟨rfl, hb1⟩)) | (go_at_call 202; ((with_reducible refine (iPartOf f b _).mono ?_); rintro e w1 ⟨rfl, hb1⟩)) | (go_at_call 202; ((with_reducible refine (iPartOf f c _).mono ?_); rintro e w1 ⟨rfl, hb1⟩)))
  go_wp2
  go_ret
  exact rowL_lit _ _ _ (by (repeat (first | exact In.refl _ | assumption | apply In.alloc | apply In.drewN | apply In.drew | (refine In.step ?_ (by assumption))))) rfl rfl (by unfold maxLen; omega)
theorem iAmounts_yes (a b c f : Int) (hd : dOk a b c = true) (hf : 0 ≤ f) (hf' : f ≤ 1000000) (w : World) : Calls Try.prog 151 #[.agg #[.int .i64 a, .int .i64 b, .int .i64 c], .int .i64 f] w (RowL [f, partV f a, partV f b, partV f c] w) := by
  have q0 : Blk (w.alloc (.cells #[.int .i64 a, .int .i64 b, .int .i64 c] 164)) w.heap.size 164 #[.int .i64 a, .int .i64 b, .int .i64 c] := Blk.new w _ _
  go_enter Try.func151, Try.ntmps151
  go_wp2_with fail
  refine (iok a b c _).mono ?_
  rintro _ w1 ⟨rfl, hb1⟩
  rw [hd]
  have i1 : In w.heap.size w w1 := In.step (by (repeat (first | exact In.refl _ | assumption | apply In.alloc | apply In.drewN | apply In.drew | (refine In.step ?_ (by assumption))))) hb1
  have k1 := Blk.step q0 hb1
  have c0 : w1.cell? ⟨w.heap.size, 0, none⟩ = some (.int .i64 a) := k1.cell 0
  have c1 : w1.cell? ⟨w.heap.size, 1, none⟩ = some (.int .i64 b) := k1.cell 1
  have c2 : w1.cell? ⟨w.heap.size, 2, none⟩ = some (.int .i64 c) := k1.cell 2
  clear hb1 q0
  have hI := inB_t ⟨hf, hf'⟩
  go_wp2_with (first | (go_at_call 95; refine (sIn _ _ _ _).mono ?_; rintro e w' ⟨rfl, rfl⟩) | (go_at_call 105; refine (iIn _ _ _ _).mono ?_; rintro e w' ⟨rfl, rfl⟩) | (go_at_call 193; refine (iamounts a b c f _).mono ?_; rintro e w2 hr; obtain ⟨g, rfl, ho, hb2⟩ := hr) | go_in | (go_end0; simp only []; go_at_K))
  go_ret
  exact rowL_in i1 ho hb2
theorem iAmounts_no (a b c f : Int) (hd : ¬ (dOk a b c = true ∧ 0 ≤ f ∧ f ≤ 1000000)) (w : World) : Calls Try.prog 151 #[.agg #[.int .i64 a, .int .i64 b, .int .i64 c], .int .i64 f] w (Val (.slice none 0 0) w) := by
  cases hb : dOk a b c
  · go_enter Try.func151, Try.ntmps151
    (go_wp2_with fail; refine (iok a b c _).mono ?_; rintro _ _ ⟨rfl, _⟩)
    rw [hb]
    go_wp2
    go_ret
    exact Val.mk' rfl (by (repeat (first | exact In.refl _ | assumption | apply In.alloc | apply In.drewN | apply In.drew | (refine In.step ?_ (by assumption)))))
  · have hI : inB f 0 1000000 = false := inB_f (by simp [hb] at hd; omega)
    all_goals
      go_enter Try.func151, Try.ntmps151
      (go_wp2_with fail; refine (iok a b c _).mono ?_; rintro _ _ ⟨rfl, _⟩)
      rw [hb]
      go_wp2_with (first | (go_at_call 95; refine (sIn _ _ _ _).mono ?_; rintro e w' ⟨rfl, rfl⟩) | (go_at_call 105; refine (iIn _ _ _ _).mono ?_; rintro e w' ⟨rfl, rfl⟩) | go_in | (go_end0; simp only []; go_at_K))
      go_ret
      exact Val.mk' rfl (by (repeat (first | exact In.refl _ | assumption | apply In.alloc | apply In.drewN | apply In.drew | (refine In.step ?_ (by assumption)))))
set_option maxHeartbeats 1000000 in
theorem sAmounts_yes (a b c f : Int) (hd : dOk a b c = true) (hf : 0 ≤ f) (hf' : f ≤ 1000000) (w : World) : Calls Try.prog 147 #[.agg #[.int .i64 a, .int .i64 b, .int .i64 c], .int .i64 f] w (RowL [f, partV f a, partV f b, partV f c] w) := by
  have q0 : Blk (w.alloc (.cells #[.int .i64 a, .int .i64 b, .int .i64 c] 164)) w.heap.size 164 #[.int .i64 a, .int .i64 b, .int .i64 c] := Blk.new w _ _
  go_enter Try.func147, Try.ntmps147
  go_wp2_with fail
  refine (sDoughOk a b c _).mono ?_
  rintro _ w1 ⟨rfl, hb1⟩
  rw [hd]
  have i1 : In w.heap.size w w1 := In.step (by (repeat (first | exact In.refl _ | assumption | apply In.alloc | apply In.drewN | apply In.drew | (refine In.step ?_ (by assumption))))) hb1
  have k1 := Blk.step q0 hb1
  have c0 : w1.cell? ⟨w.heap.size, 0, none⟩ = some (.int .i64 a) := k1.cell 0
  have c1 : w1.cell? ⟨w.heap.size, 1, none⟩ = some (.int .i64 b) := k1.cell 1
  have c2 : w1.cell? ⟨w.heap.size, 2, none⟩ = some (.int .i64 c) := k1.cell 2
  clear hb1 q0
  have hI := inB_t ⟨hf, hf'⟩
  go_wp2_with (first | (go_at_call 95; refine (sIn _ _ _ _).mono ?_; rintro e w' ⟨rfl, rfl⟩) | (go_at_call 105; refine (iIn _ _ _ _).mono ?_; rintro e w' ⟨rfl, rfl⟩) | go_in | (go_end0; simp only []; go_at_K))
  go_region_held3 (fun w' => In w.heap.size w w' ∧ Blk w' w.heap.size 164 #[.int .i64 a, .int .i64 b, .int .i64 c] ∧ w'.cell? ⟨w.heap.size, 0, none⟩ = some (.int .i64 a) ∧ w'.cell? ⟨w.heap.size, 1, none⟩ = some (.int .i64 b) ∧ w'.cell? ⟨w.heap.size, 2, none⟩ = some (.int .i64 c))
    (first | assumption | exact dheld_step hb1 (by assumption) | exact dheld_alloc (by assumption) | exact dheld (by (repeat (first | exact In.refl _ | assumption | apply In.alloc | apply In.drewN | apply In.drew | (refine In.step ?_ (by assumption))))) (by (with_reducible (repeat (first | assumption | apply Blk.drewN | apply Blk.drew | apply Blk.alloc)))))
    (first | (go_at_call 189; ((with_reducible refine (sPartOf f a _).mono ?_); rintro e w1 ⟨rfl, hb1⟩)) | (go_at_call 189; ((with_reducible refine (sPartOf f b _).mono ?_); rintro e w1 ⟨rfl, hb1⟩)) | (go_at_call 189; ((with_reducible refine (sPartOf f c _).mono ?_); rintro e w1 ⟨rfl, hb1⟩)))
  go_wp2
  go_ret
  exact rowL_lit _ _ _ (by (repeat (first | exact In.refl _ | assumption | apply In.alloc | apply In.drewN | apply In.drew | (refine In.step ?_ (by assumption))))) rfl rfl (by unfold maxLen; omega)
theorem sAmounts_no (a b c f : Int) (hd : ¬ (dOk a b c = true ∧ 0 ≤ f ∧ f ≤ 1000000)) (w : World) : Calls Try.prog 147 #[.agg #[.int .i64 a, .int .i64 b, .int .i64 c], .int .i64 f] w (RowL [] w) := by
  cases hb : dOk a b c
  · go_enter Try.func147, Try.ntmps147
    (go_wp2_with fail; refine (sDoughOk a b c _).mono ?_; rintro _ _ ⟨rfl, _⟩)
    rw [hb]
    go_wp2
    go_ret
    exact rowL_lit _ _ _ (by (repeat (first | exact In.refl _ | assumption | apply In.alloc | apply In.drewN | apply In.drew | (refine In.step ?_ (by assumption))))) rfl rfl (by unfold maxLen; omega)
  · have hI : inB f 0 1000000 = false := inB_f (by simp [hb] at hd; omega)
    all_goals
      go_enter Try.func147, Try.ntmps147
      (go_wp2_with fail; refine (sDoughOk a b c _).mono ?_; rintro _ _ ⟨rfl, _⟩)
      rw [hb]
      go_wp2_with (first | (go_at_call 95; refine (sIn _ _ _ _).mono ?_; rintro e w' ⟨rfl, rfl⟩) | (go_at_call 105; refine (iIn _ _ _ _).mono ?_; rintro e w' ⟨rfl, rfl⟩) | go_in | (go_end0; simp only []; go_at_K))
      go_ret
      exact rowL_lit _ _ _ (by (repeat (first | exact In.refl _ | assumption | apply In.alloc | apply In.drewN | apply In.drew | (refine In.step ?_ (by assumption))))) rfl rfl (by unfold maxLen; omega)
end Go.Proofs.Ytmkfnhgaiheckaa
