/- Maps from numbers to numbers, of the call's own, as functions. -/
import Derived.Test.YtgjbbidcpmglbaaVal
import Derived.Test.YtgjbbidcpmglbaaChecked
import Derived.Maps.OwnOps
import Derived.Maps.Views
import Derived.Maps.RangeWalk
namespace Go.Proofs.Ytgjbbidcpmglbaa
open Go.ChangeShapes Go.WideShapes Go.ChangeAt Go.RowKit Go.Maps
set_option linter.unusedVariables false
set_option linter.unusedSimpArgs false
set_option maxHeartbeats 1000000
theorem lawI : Keyed Try.prog 3 := int_keyed Try.underlying3
theorem zeroI (w : World) : (zeroValue 3).run Try.prog w = .ok (.int .i64 0) w := by kernel_rfl
abbrev ownI (w : World) (b n : Nat) (D : DataW Unit) : Prop := w.ownsMap Try.prog 3 (plainElem Try.prog 3) b n D
def Reads1 (D : DataW Unit) (f : Int → Option Int) : Prop := IsMap D ∧ ∀ x z, D.atKey (.int .i64 x) z = (match f x with | some c => .lit (.int .i64 c) | none => z)
/-- block b is a map of at most n entries that holds f -/
def MapF (w : World) (b n : Nat) (f : Int → Option Int) : Prop := ∃ D, ownI w b n D ∧ Reads1 D f
def upd (f : Int → Option Int) (k v : Int) : Int → Option Int := fun x => if x = k then some v else f x
theorem Reads1.put {D : DataW Unit} {f : Int → Option Int} (h : Reads1 D f) (k v : Int) : Reads1 (D.put (.int .i64 k) (.lit (.int .i64 v))) (upd f k v) := by
  refine ⟨h.1.put _ _, fun x z => ?_⟩
  by_cases e : x = k
  · subst e
    rw [atKey_put_same (k := Lit.int .i64 x) h.1 trivial, upd, if_pos rfl]
  · rw [atKey_put_other (fun h => by injection h with _ h; exact e h), h.2 x z, upd, if_neg e]
theorem MapF.made (w : World) : MapF (w.alloc (.map #[] 0)) w.heap.size 0 (fun _ => none) := ⟨_, World.ownsMap_made _ _ _ _, isMap_empty, fun x z => rfl⟩
section
variable {w w' : World} {b n : Nat} {f : Int → Option Int}
theorem MapF.lt (h : MapF w b n f) : b < w.heap.size := by obtain ⟨D, h, _⟩ := h; exact h.lt
theorem MapF.mono (h : MapF w b n f) {m : Nat} (hm : n ≤ m) : MapF w b m f := by obtain ⟨D, h, r⟩ := h; exact ⟨D, h.mono hm, r⟩
theorem MapF.kept {row : Option Nat} (h : MapF w b n f) (hg : w.grownBy w' row) (hne : some b ≠ row) : MapF w' b n f := by obtain ⟨D, h, r⟩ := h; exact ⟨D, h.kept hg hne, r⟩
theorem MapF.alloc (h : MapF w b n f) (o : Obj) : MapF (w.alloc o) b n f := by obtain ⟨D, h, r⟩ := h; exact ⟨D, h.alloc o, r⟩
theorem MapF.drew (h : MapF w b n f) : MapF w.drew b n f := h
theorem MapF.step (h : MapF w b n f) (hb : Below w.heap.size w w') : MapF w' b n f := by
  have hl := h.lt
  obtain ⟨D, ⟨es, clock, hk, F, hs, hD⟩, r⟩ := h
  exact ⟨D, ⟨es, clock, (hb.block b hl).trans hk, F, hs, hD⟩, r⟩
end
section
variable {ops : Array Oper} {rest : List Oper} {o : Oper} {a : Act} {Q : Exit → Act → World → Prop}
/-- m[k] at the operation -/
theorem wpList_lookF (w : World) (hg : o.guard = none) (m x : Operand) (hop : o.op = Op.lookup 92 m x false) (b n : Nat) (f : Int → Option Int) (hm : a.eval m = .map (some b)) (hown : MapF w b n f)
    (k : Int) (hx : a.eval x = .int .i64 k) (hk : (Lit.int .i64 k).wf = true) (hK : wpList Try.prog ops Q rest (a.put o.dst (.int .i64 ((f k).getD 0))) w) : wpList Try.prog ops Q (o :: rest) a w := by
  obtain ⟨D, h, r1, r2⟩ := hown
  refine wpList_lookup_own_int w hg m x _ hop 3 3 .i64 lawI Try.underlying92 Try.underlying3 (zeroI _) b n D hm h _ (.int .i64 k) hx (keyOf_int_mk Try.underlying3 hk) fun c hat hwc => ?_
  rw [r2] at hat
  cases hf : f k with
  | none =>
    rw [hf] at hat hK
    simp only at hat
    injection hat with hat
    injection hat with _ hat
    subst hat
    exact hK
  | some v =>
    rw [hf] at hat hK
    simp only at hat
    injection hat with hat
    injection hat with _ hat
    subst hat
    exact hK
/-- m[k] = v at the operation, an entry of a literal too -/
theorem wpList_storeF (w : World) (hg : o.guard = none) (m x v : Operand) (hop : o.op = Op.mapUpdate 92 m x v ∨ o.op = Op.insert 92 m x v) (b n : Nat) (f : Int → Option Int) (hm : a.eval m = .map (some b)) (hown : MapF w b n f) (hn : n < maxLen)
    (k c : Int) (hx : a.eval x = .int .i64 k) (hv : a.eval v = .int .i64 c) (hk : (Lit.int .i64 k).wf = true) (hc : (Lit.int .i64 c).wf = true)
    (hK : ∀ w', MapF w' b (n + 1) (upd f k c) → w.grownBy w' (some b) → wpList Try.prog ops Q rest (a.put o.dst undef) w') : wpList Try.prog ops Q (o :: rest) a w := by
  obtain ⟨D, h, r⟩ := hown
  refine wpList_plain hg fun K' hK' => ?_
  obtain ⟨w', hrun, h1, h2⟩ := h.update lawI Try.underlying92 hn (keyOf_int_mk Try.underlying3 hk) (plainElem_int Try.underlying3 hc)
  unfold Oper.wp
  rcases hop with hop | hop
  · simp [execOp, hop, hm, hx, hv, hrun, Result.andThen]
    exact hK' _ _ (hK w' ⟨_, h1, r.put k c⟩ h2)
  · simp [execOp, hop, hm, hx, hv, hrun, Result.andThen]
    exact hK' _ _ (hK w' ⟨_, h1, r.put k c⟩ h2)
end
/-- a range over the map is under way: 'done': the keys that have come -/
def RangeF (w : World) (b r n : Nat) (f : Int → Option Int) (done : Int → Bool) (cnt : Nat) : Prop :=
  ∃ D left, w.ranges Try.prog 3 (plainElem Try.prog 3) b r n D left cnt ∧ Reads1 D f ∧ ∀ x, left (.int .i64 x) = ((f x).isSome && !done x)
theorem has_of {D : DataW Unit} {f : Int → Option Int} (h : Reads1 D f) (x : Int) : has D (.int .i64 x) = (f x).isSome := by
  cases hf : f x with
  | none => exact has_false_of_atKey fun z => by rw [h.2, hf]
  | some c => exact has_true_of_atKey (y := .lit (.int .i64 c)) fun z => by rw [h.2, hf]
theorem RangeF.left_eq {w : World} {b r n : Nat} {f : Int → Option Int} {done : Int → Bool} {cnt : Nat} (h : RangeF w b r n f done cnt) : w.rangeLeft b r = cnt := by obtain ⟨D, left, h, _⟩ := h; exact h.left_eq
theorem RangeF.alloc {w : World} {b r n : Nat} {f : Int → Option Int} {done : Int → Bool} {cnt : Nat} (h : RangeF w b r n f done cnt) (o : Obj) : RangeF (w.alloc o) b r n f done cnt := by obtain ⟨D, left, h, k⟩ := h; exact ⟨D, left, h.alloc o, k⟩
theorem RangeF.kept {w w' : World} {b r n : Nat} {f : Int → Option Int} {done : Int → Bool} {cnt : Nat} {row : Option Nat} (h : RangeF w b r n f done cnt) (hg : w.grownBy w' row) (hb : some b ≠ row) (hr : some r ≠ row) : RangeF w' b r n f done cnt := by
  obtain ⟨D, left, h, k⟩ := h; exact ⟨D, left, h.kept hg hb hr, k⟩
section
variable {ops : Array Oper} {rest : List Oper} {o : Oper} {a : Act} {Q : Exit → Act → World → Prop}
theorem wpList_rangeF (w : World) (hg : o.guard = none) (m : Operand) (hop : o.op = Op.range 92 m) (b n : Nat) (f : Int → Option Int) (hm : a.eval m = .map (some b)) (hown : MapF w b n f)
    (hK : ∀ w' cnt, RangeF w' b w.heap.size n f (fun _ => false) cnt → w.grownBy w' none → w'.heap.size = w.heap.size + 1 → wpList Try.prog ops Q rest (a.put o.dst (.pointer (some ⟨w.heap.size, 0, none⟩))) w') :
    wpList Try.prog ops Q (o :: rest) a w := by
  obtain ⟨D, h, r⟩ := hown
  exact wpList_range_own w hg m _ hop 3 3 lawI Try.underlying92 _ b n D hm h fun w' h1 h2 h3 => hK w' _ ⟨D, _, h1, r, fun x => by rw [has_of r]; simp⟩ h2 h3
theorem wpList_nextF (w : World) (hg : o.guard = none) (it : Operand) (hop : o.op = Op.next it false) (b r n : Nat) (f : Int → Option Int) (done : Int → Bool) (cnt : Nat) (hit : a.eval it = .pointer (some ⟨r, 0, none⟩)) (h : RangeF w b r n f done cnt)
    (hDone : cnt = 0 → (∀ x, (f x).isSome = true → done x = true) → wpList Try.prog ops Q rest (a.put o.dst (.tuple #[.bool false])) w)
    (hMore : ∀ (x c : Int) (w' : World) (cnt' : Nat), (Lit.int .i64 x).wf = true → (Lit.int .i64 c).wf = true → f x = some c → done x = false → RangeF w' b r n f (fun y => done y || decide (y = x)) cnt' → cnt' < cnt →
      w.grownBy w' (some r) → w'.heap.size = w.heap.size → (Instr.entry (.pointer (some ⟨r, 0, none⟩))).run Try.prog w' = .ok (.tuple #[.int .i64 x, .int .i64 c]) w' → wpList Try.prog ops Q rest (a.put o.dst (.tuple #[.bool true, .int .i64 x, .int .i64 c])) w') :
    wpList Try.prog ops Q (o :: rest) a w := by
  obtain ⟨D, left, hr, k1, k2⟩ := h
  refine wpList_next_ranges_ii w hg it hop 3 3 .i64 .i64 lawI Try.underlying3 Try.underlying3 b r n D left cnt hit hr (fun h0 hl => hDone h0 fun x hx => ?_) fun x c w' cnt' hwx hwc hlx hat hr' hlt hg1 hs hen => ?_
  · have := hl (.int .i64 x)
    rw [k2, hx] at this
    simpa using this
  · have hl := k2 x
    rw [hlx] at hl
    have hfx : f x = some c := by
      have h1 := hat (.lit (.int .i64 (c + 1)))
      rw [k1.2] at h1
      cases hf : f x with
      | none => rw [hf] at hl; simp at hl
      | some c' =>
        rw [hf] at h1
        simp only at h1
        injection h1 with h1
        injection h1 with _ h1
        rw [h1]
    refine hMore x c w' cnt' hwx hwc hfx ?_ ⟨D, _, hr', k1, fun y => ?_⟩ hlt hg1 hs hen
    · rw [hfx] at hl
      simpa using hl.symm
    · have e : (Lit.int .i64 y).sameKey (.int .i64 x) = decide (y = x) := by
        by_cases h : y = x
        · subst h
          simp [WideAt.sameKey_self (a := Lit.int .i64 y) trivial]
        · rw [sameKey_ne (fun hh => by injection hh with _ hh; exact h hh)]
          simp [h]
      simp only [k2, e]
      cases (f y).isSome <;> cases done y <;> simp
end
end Go.Proofs.Ytgjbbidcpmglbaa
