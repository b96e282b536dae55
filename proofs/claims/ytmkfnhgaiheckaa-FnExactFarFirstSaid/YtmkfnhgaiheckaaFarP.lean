/- Chapter 21: FarFirst: what both build; small facts for the walk. -/
import Derived.Test.YtmkfnhgaiheckaaRowsW
import Derived.Test.YtmkfnhgaiheckaaC21
import Derived.Test.YtmkfnhgaiheckaaComm
import Derived.Test.YtmkfnhgaiheckaaAppS
namespace Go.Proofs.Ytmkfnhgaiheckaa
open Go.ChangeShapes Go.WideShapes Go.ChangeAt Go.RowKit Go.Conc
set_option linter.unusedVariables false
set_option linter.unusedSimpArgs false
set_option maxHeartbeats 2000000

theorem loaves_in {n : Nat} {xs : List ShopR} (h : shopsB n xs = true) {i : Nat} (hi : i < n) : 1 ≤ (xs.getD i z21).f1 ∧ (xs.getD i z21).f1 ≤ 100 ∧ 0 ≤ (xs.getD i z21).f0 ∧ (xs.getD i z21).f0 ≤ 1000 := by
  have h1 := shops_at h
  have h2 := shB_in (h1.2 i hi)
  have h3 := (shPre_in i fun j hj => h1.2 j (by omega)).1
  omega
theorem icanDrive (A : Option Addr) (n c : Nat) (xs : List ShopR) (room : Int) (w : World) (hn : n ≤ maxLen) (hx : ReadsShop w A n xs) : Calls Try.prog 158 #[.slice A n c, .int .i64 room] w (Val (.bool (shopsB n xs && inB room 1 100)) w) := by
  go_enter Try.func158, Try.ntmps158
  go_wp2_with fail
  refine (iShopsOk A n c xs _ hn hx).mono ?_
  rintro _ w1 ⟨rfl, hb1⟩
  cases h1 : shopsB n xs
  · go_wp2
    go_ret
    exact Val.mk' (v_bool (by simp [h1])) (by (repeat (first | exact In.refl _ | assumption | apply In.alloc | apply In.drewN | apply In.drew | (refine In.step ?_ (by assumption)))))
  go_wp2_with fail
  refine (iIn room 1 100 _).mono ?_
  rintro _ _ ⟨rfl, rfl⟩
  go_wp2
  go_ret
  exact Val.mk' (v_bool (by simp [h1])) (by (repeat (first | exact In.refl _ | assumption | apply In.alloc | apply In.drewN | apply In.drew | (refine In.step ?_ (by assumption)))))
/-- the trips that are done, the last one, and its room behind j shops from the far end -/
def farS (xs : List ShopR) (n : Nat) (room : Int) : Nat → List IntSR × List Int × Int
  | 0 => ([], [], 0)
  | j + 1 =>
    if j = 0 ∨ (farS xs n room j).2.2 < (xs.getD (n - 1 - j) z21).f1 then
      ((if j = 0 then [] else (farS xs n room j).1 ++ [(farS xs n room j).2.1]), [((n - 1 - j : Nat) : Int)], room - (xs.getD (n - 1 - j) z21).f1)
    else ((farS xs n room j).1, (farS xs n room j).2.1 ++ [((n - 1 - j : Nat) : Int)], (farS xs n room j).2.2 - (xs.getD (n - 1 - j) z21).f1)
def fD (xs : List ShopR) (n : Nat) (room : Int) (j : Nat) : List IntSR := (farS xs n room j).1
def fC (xs : List ShopR) (n : Nat) (room : Int) (j : Nat) : List Int := (farS xs n room j).2.1
def fR (xs : List ShopR) (n : Nat) (room : Int) (j : Nat) : Int := (farS xs n room j).2.2
theorem far_first {xs : List ShopR} {n : Nat} {room : Int} : fD xs n room 1 = [] ∧ fC xs n room 1 = [((n - 1 : Nat) : Int)] ∧ fR xs n room 1 = room - (xs.getD (n - 1) z21).f1 := by
  refine ⟨?_, ?_, ?_⟩ <;> simp [fD, fC, fR, farS]
theorem far_new {xs : List ShopR} {n : Nat} {room : Int} {j : Nat} (hj : 0 < j) (h : fR xs n room j < (xs.getD (n - 1 - j) z21).f1) : fD xs n room (j + 1) = fD xs n room j ++ [fC xs n room j] ∧ fC xs n room (j + 1) = [((n - 1 - j : Nat) : Int)] ∧ fR xs n room (j + 1) = room - (xs.getD (n - 1 - j) z21).f1 := by
  unfold fR at h
  refine ⟨?_, ?_, ?_⟩ <;> (first | unfold fD | unfold fC | unfold fR) <;> rw [farS, if_pos (.inr h)]
  · show (if j = 0 then [] else _) = _; rw [if_neg (by omega)]; rfl
theorem far_same {xs : List ShopR} {n : Nat} {room : Int} {j : Nat} (hj : 0 < j) (h : ¬ fR xs n room j < (xs.getD (n - 1 - j) z21).f1) : fD xs n room (j + 1) = fD xs n room j ∧ fC xs n room (j + 1) = fC xs n room j ++ [((n - 1 - j : Nat) : Int)] ∧ fR xs n room (j + 1) = fR xs n room j - (xs.getD (n - 1 - j) z21).f1 := by
  unfold fR at h
  refine ⟨?_, ?_, ?_⟩ <;> (first | unfold fD | unfold fC | unfold fR) <;> rw [farS, if_neg (by omega)] <;> rfl
theorem lenR_pre (xs : List IntSR) (r : List Int) : ∀ k, k ≤ xs.length → lenR (xs ++ [r]) k = lenR xs k
  | 0, _ => rfl
  | k + 1, h => by
    rw [lenR, lenR, lenR_pre xs r k (by omega)]
    congr 1
    simp [List.getD_eq_getElem?_getD, List.getElem?_append_left (by omega : k < xs.length)]
theorem lenR_snoc (xs : List IntSR) (r : List Int) : lenR (xs ++ [r]) (xs.length + 1) = lenR xs xs.length + r.length := by
  rw [lenR, lenR_pre xs r _ (Nat.le_refl _)]
  congr 1
  simp [List.getD_eq_getElem?_getD]
theorem far_len {xs : List ShopR} {n : Nat} {room : Int} : ∀ j, lenR (fD xs n room j) (fD xs n room j).length + (fC xs n room j).length = j ∧ (fD xs n room j).length ≤ j ∧ (0 < j → (fD xs n room j).length < j) := by
  intro j
  induction j with
  | zero => exact ⟨rfl, Nat.le_refl _, fun h => absurd h (Nat.lt_irrefl _)⟩
  | succ j ih =>
    by_cases hj : j = 0
    · subst hj
      obtain ⟨e1, e2, _⟩ := far_first (xs := xs) (n := n) (room := room)
      show lenR (fD xs n room 1) _ + _ = 1 ∧ _ ∧ _
      rw [e1, e2]
      exact ⟨rfl, by simp, fun _ => by simp⟩
    · by_cases h : fR xs n room j < (xs.getD (n - 1 - j) z21).f1
      · obtain ⟨e1, e2, _⟩ := far_new (by omega) h
        have i3 := ih.2.2 (by omega)
        rw [e1, e2, List.length_append, List.length_singleton, lenR_snoc, List.length_singleton]
        exact ⟨by omega, by omega, fun _ => by omega⟩
      · obtain ⟨e1, e2, _⟩ := far_same (by omega) h
        have i3 := ih.2.2 (by omega)
        rw [e1, e2, List.length_append, List.length_singleton]
        exact ⟨by omega, by omega, fun _ => by omega⟩
def bigAt (xs : List ShopR) (room : Int) (i : Nat) : Bool := decide ((xs.getD i z21).f1 ≤ room)
def farB (n : Nat) (xs : List ShopR) (room : Int) : Bool := shopsB n xs && inB room 1 100 && allOk (bigAt xs room) n
def FarL (n : Nat) (xs : List ShopR) (room : Int) : List IntSR := if farB n xs room then (if n = 0 then [] else fD xs n room n ++ [fC xs n room n]) else []
theorem FarL_f {n : Nat} {xs : List ShopR} {room : Int} (h : farB n xs room = false) : FarL n xs room = [] := by unfold FarL; rw [h]; rfl
theorem FarL_t {n : Nat} {xs : List ShopR} {room : Int} (h : farB n xs room = true) (hn : 0 < n) : FarL n xs room = fD xs n room n ++ [fC xs n room n] := by unfold FarL; rw [if_pos h, if_neg (by omega)]
theorem FarL_0 {xs : List ShopR} {room : Int} : FarL 0 xs room = [] := by unfold FarL; split <;> rfl
theorem farB_n {n : Nat} {xs : List ShopR} {room : Int} (h : farB n xs room = true) : n ≤ 10 := by
  simp only [farB, Bool.and_eq_true] at h
  exact (shops_at h.1.1).1
theorem FarL_len (n : Nat) (xs : List ShopR) (room : Int) : (FarL n xs room).length ≤ 20 := by
  cases h : farB n xs room
  · rw [FarL_f h]; simp
  · have h1 := farB_n h
    by_cases hn : n = 0
    · subst hn; rw [FarL_0]; simp
    · rw [FarL_t h (by omega)]
      have := (far_len (xs := xs) (n := n) (room := room) n).2.1
      simp; omega
theorem FarL_tot (n : Nat) (xs : List ShopR) (room : Int) : lenR (FarL n xs room) (FarL n xs room).length ≤ 20 := by
  cases h : farB n xs room
  · rw [FarL_f h]; simp [lenR]
  · have h1 := farB_n h
    by_cases hn : n = 0
    · subst hn; rw [FarL_0]; simp [lenR]
    · rw [FarL_t h (by omega), List.length_append, List.length_singleton, lenR_snoc]
      have := (far_len (xs := xs) (n := n) (room := room) n).1
      omega
/-- numbers that fall from a on, as a channel's buffer -/
def bufD (a : Int) (N : Nat) : Array Value := ((List.range N).map fun i : Nat => Value.int .i64 (a - (i : Int))).toArray
theorem bufD_size (a : Int) (N : Nat) : (bufD a N).size = N := by simp [bufD]
theorem bufD_push (a : Int) (N : Nat) : (bufD a N).push (.int .i64 (a - (N : Int))) = bufD a (N + 1) := by simp [bufD, List.range_succ]
theorem bufD_at (a : Int) (N : Nat) : (bufD a (N + 1)).getD 0 undef = .int .i64 a := by simp [bufD, Array.getD]
theorem bufD_pop (a : Int) (N : Nat) : (bufD a (N + 1)).extract 1 (bufD a (N + 1)).size = bufD (a - 1) N := by
  apply Array.ext
  · simp [bufD]
  · intro i h1 h2
    simp [bufD]
    omega
section
variable {P : Program} {fr : Frame} {cs : List Frame} {w w₁ : World} {es : Array Event} {c cap s r : Nat} {buf : Array Value} {z v : Value} {tm closed : Bool}
theorem step_lone_select_recv (h : stepG P true (G fr cs) w = .comm (G fr cs) #[rcase c z] false .select w₁ es) (hc : w₁.heap[c]? = some (.chan cap buf closed s r tm)) (hsome : 0 < buf.size) :
    step P (solo (G fr cs) w) = .next (solo (G (fr.finish (.tuple #[goInt 0, .bool true, buf.getD 0 undef])) cs) (w₁.setChan c cap (buf.extract 1 buf.size) closed s (r + 1) tm)) := by
  have hp := partners_alone (c := c) true
  rw [step, stepT_solo rfl]
  simp [runT, solo, G, Array.swapAt!, Array.swapAt, h, GStep.es, communicate, ways, rcase, hc, hp, hsome, choose, Sem.run, Question.forced, bind, Sem.bind, pure, Goroutine.finishComm, commResult, World.setChan, List.zipIdx_cons] at h ⊢
variable {ops : Array Oper} {Q : Exit → Act → World → Prop} {rest : List Nat} {a : Act} {i : Nat} {o : Oper}
theorem SemOps.select_recv (ho : ops[i]? = some o) (hw : Region.wanted o (yielded ops a.tmps) = true)
    (hr : (execOp a.eval o).run P w = .ok (.comm #[rcase c z] false .select) w) (hc : w.heap[c]? = some (.chan cap buf closed s r tm)) (hsome : 0 < buf.size)
    (h : SemOps P ops Q rest (a.put o.dst (.tuple #[goInt 0, .bool true, buf.getD 0 undef])) (w.setChan c cap (buf.extract 1 buf.size) closed s (r + 1) tm)) : SemOps P ops Q (i :: rest) a w := by
  intro b k cs
  obtain ⟨es, hg⟩ := stepG_comm_any (b := b) (k := k) (cs := cs) (rest := rest) ho hw hr
  have hs := step_lone_select_recv hg hc hsome
  rw [sem_fin b k ho] at hs
  obtain ⟨e, a', w'', hq, harr⟩ := h b k cs
  exact ⟨e, a', w'', hq, .of_steps (.one hs) harr⟩
end
theorem In.grow {B : Nat} {a w w' : World} {j : Option Nat} (h : In B a w) (hb : w.grownBy w' j) (hj : ∀ i, j = some i → B ≤ i) : In B a w' := ⟨h.below.grown hb h.size hj, Nat.le_trans h.size hb.size⟩
theorem chan_keep {w w' : World} {j : Option Nat} {ch : Nat} {o : Obj} (hb : w.grownBy w' j) (hc : w.heap[ch]? = some o) (hj : ∀ i, j = some i → i ≠ ch) : w'.heap[ch]? = some o :=
  (hb.block ch (Array.getElem?_eq_some_iff.1 hc).1 (fun e => hj ch e.symm rfl)).trans hc
/-- a row of rows and a truth value -/
def RowRCB (zs : List IntSR) (b : Bool) (w : World) (e : Ending) (w' : World) : Prop := ∃ v, e = .returned (.tuple #[v, .bool b]) ∧ RowsC w' w.heap.size v zs.length zs ∧ Below w.heap.size w w'
theorem RowsL.setChan {w : World} {B m : Nat} {v : Value} {D : List IntSR} {cur : List Int} (h : RowsL w B v m D cur) {c : Nat} (hc : c < B) (cap : Nat) (buf : Array Value) (cl : Bool) (s r : Nat) (tm : Bool) : RowsL (w.setChan c cap buf cl s r tm) B v m D cur := by
  have hb : w.grownBy (w.setChan c cap buf cl s r tm) (some c) := ⟨rfl, rfl, rfl, by rw [size_setChan]; exact Nat.le_refl _, fun k hk hne => heap_setChan_of (fun e => hne (by rw [e]))⟩
  obtain ⟨vs, G, C, g, c', go, cap', hv, h1, hvl, h2, h3, h4, h5, h6, cs, h7⟩ := h
  subst hv
  refine ⟨vs, G, C, g, c', go, cap', rfl, own_keep h1 hb (by simp [Value.ownBlock]; omega), hvl, h2.only hb (fun t ht i hi => by injection hi with hi; have := (h2.2.1 t ht).2.1; omega), ownC_only h3 hb (fun i hi => by injection hi with hi; omega), h4, h5, h6, cs, ?_⟩
  exact (hb.block go h7.lt (fun e => by injection e with e; omega)).trans h7
end Go.Proofs.Ytmkfnhgaiheckaa
