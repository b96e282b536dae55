/- Sets of numbers, of the call's own: maps from numbers to true. -/
import Derived.Test.YtgjbbidcpmglbaaVal
import Derived.Test.YtgjbbidcpmglbaaIdxM
import Derived.Test.YtgjbbidcpmglbaaChecked
import Derived.Maps.OwnOps
import Derived.Maps.OwnSet
import Derived.Maps.Views
import Derived.Lib.SlKeysI
namespace Go.Proofs.Ytgjbbidcpmglbaa
open Go.ChangeShapes Go.WideShapes Go.ChangeAt Go.RowKit Go.Maps
set_option linter.unusedVariables false
set_option linter.unusedSimpArgs false
set_option maxHeartbeats 1000000
theorem lawI : Keyed Try.prog 3 := int_keyed Try.underlying3
abbrev ownS (w : World) (b n : Nat) (D : DataW Unit) : Prop := w.ownsMap Try.prog 3 (plainElem Try.prog 4) b n D
def ReadsB (D : DataW Unit) (p : Int → Bool) : Prop := IsMap D ∧ ∀ x z, D.atKey (.int .i64 x) z = if p x then .lit (.bool true) else z
/-- block b is a set of at most n numbers: those with p -/
def SetF (w : World) (b n : Nat) (p : Int → Bool) : Prop := ∃ D, ownS w b n D ∧ ReadsB D p
def ins (p : Int → Bool) (k : Int) : Int → Bool := fun x => decide (x = k) || p x
def noneB : Int → Bool := fun _ => false
theorem ReadsB.put {D : DataW Unit} {p : Int → Bool} (h : ReadsB D p) (k : Int) : ReadsB (D.put (.int .i64 k) (.lit (.bool true))) (ins p k) := by
  refine ⟨h.1.put _ _, fun x z => ?_⟩
  by_cases e : x = k
  · subst e
    rw [atKey_put_same (k := Lit.int .i64 x) h.1 trivial]
    simp [ins]
  · rw [atKey_put_other (fun h => by injection h with _ h; exact e h), h.2 x z]
    simp [ins, e]
theorem ReadsB.has {D : DataW Unit} {p : Int → Bool} (h : ReadsB D p) (x : Int) : has D (.int .i64 x) = p x := by
  cases e : p x
  · exact has_false_of_atKey fun z => by rw [h.2, e]; rfl
  · exact has_true_of_atKey (y := .lit (.bool true)) fun z => by rw [h.2, e]; rfl
theorem SetF.made (w : World) : SetF (w.alloc (.map #[] 0)) w.heap.size 0 noneB := ⟨_, World.ownsMap_made _ _ _ _, isMap_empty, fun x z => rfl⟩
section
variable {w w' : World} {b n : Nat} {p : Int → Bool}
theorem SetF.lt (h : SetF w b n p) : b < w.heap.size := by obtain ⟨D, h, _⟩ := h; exact h.lt
theorem SetF.mono (h : SetF w b n p) {m : Nat} (hm : n ≤ m) : SetF w b m p := by obtain ⟨D, h, r⟩ := h; exact ⟨D, h.mono hm, r⟩
theorem SetF.kept {row : Option Nat} (h : SetF w b n p) (hg : w.grownBy w' row) (hne : some b ≠ row) : SetF w' b n p := by obtain ⟨D, h, r⟩ := h; exact ⟨D, h.kept hg hne, r⟩
theorem SetF.alloc (h : SetF w b n p) (o : Obj) : SetF (w.alloc o) b n p := by obtain ⟨D, h, r⟩ := h; exact ⟨D, h.alloc o, r⟩
theorem SetF.drew (h : SetF w b n p) : SetF w.drew b n p := h
theorem SetF.step (h : SetF w b n p) (hb : Below w.heap.size w w') : SetF w' b n p := by
  have hl := h.lt
  obtain ⟨D, ⟨es, clock, hk, F, hs, hD⟩, r⟩ := h
  exact ⟨D, ⟨es, clock, (hb.block b hl).trans hk, F, hs, hD⟩, r⟩
end
theorem own_size {w : World} {b n : Nat} {D : DataW Unit} (h : ownS w b n D) : Maps.size D ≤ n := by
  obtain ⟨es, clock, hb, F, hs, rfl⟩ := h
  show ((es.toList.map _).foldr DataW.insert []).length ≤ n
  rw [length_sorted, List.length_map]
  simpa using hs
theorem keys_of {w : World} {b n : Nat} {D : DataW Unit} {p : Int → Bool} (h : ownS w b n D) (hr : ReadsB D p) (L : List Int) (hs : L.Pairwise (· < ·)) (hm : ∀ x, x ∈ L ↔ p x = true) {ss : List Int} (hp : ss.Perm (intKeys D)) : ss.mergeSort leI = L := by
  have hnd : L.Nodup := hs.imp fun h => Int.ne_of_lt h
  have hc : CollectedI D (fun _ => false) L := ⟨hnd, fun x => by rw [hr.has, hm x]; simp⟩
  have hq := hc.perm h lawI Try.underlying3 (fun _ => rfl)
  rw [mergeSort_of_perm_i (hp.trans hq.symm)]
  exact List.mergeSort_of_pairwise (hs.imp fun h => by simp only [leI, decide_eq_true_eq]; omega)
section
variable {ops : Array Oper} {rest : List Oper} {o : Oper} {a : Act} {Q : Exit → Act → World → Prop}
/-- m[k] = true at the operation -/
theorem wpList_storeB (w : World) (hg : o.guard = none) (m x v : Operand) (hop : o.op = Op.mapUpdate 108 m x v) (b n : Nat) (p : Int → Bool) (hm : a.eval m = .map (some b)) (hown : SetF w b n p) (hn : n < maxLen)
    (k : Int) (hx : a.eval x = .int .i64 k) (hv : a.eval v = .bool true) (hk : (Lit.int .i64 k).wf = true)
    (hK : ∀ w', SetF w' b (n + 1) (ins p k) → w.grownBy w' (some b) → wpList Try.prog ops Q rest (a.put o.dst undef) w') : wpList Try.prog ops Q (o :: rest) a w := by
  obtain ⟨D, h, r⟩ := hown
  refine wpList_plain hg fun K' hK' => ?_
  obtain ⟨w', hrun, h1, h2⟩ := h.update lawI Try.underlying108 hn (keyOf_int_mk Try.underlying3 hk) (plainElem_bool Try.underlying4 true)
  unfold Oper.wp
  simp [execOp, hop, hm, hx, hv, hrun, Result.andThen]
  exact hK' _ _ (hK w' ⟨_, h1, r.put k⟩ h2)
set_option maxRecDepth 100000 in
theorem wpList_lookupB (w : World) (hg : o.guard = none) (m x : Operand) (hop : o.op = Op.lookup 108 m x false) (b n : Nat) (p : Int → Bool) (hm : a.eval m = .map (some b)) (hown : SetF w b n p)
    (k : Int) (hx : a.eval x = .int .i64 k) (hk : (Lit.int .i64 k).wf = true) (hK : wpList Try.prog ops Q rest (a.put o.dst (.bool (p k))) w) : wpList Try.prog ops Q (o :: rest) a w := by
  obtain ⟨D, h, r1, r2⟩ := hown
  have hz : (zeroValue 4).run Try.prog w = .ok (.bool false) w := by kernel_rfl
  refine wpList_plain hg fun K' hK' => ?_
  obtain ⟨v, ps, hrun, hv⟩ := h.lookup lawI Try.underlying108 hz (plainElem_bool Try.underlying4 false) (keyOf_int_mk Try.underlying3 hk)
  rw [r2] at hv
  have hvb : v = .bool (p k) := by
    have he : (if p k = true then (DataW.lit (Lit.bool true) : DataW Unit) else DataW.lit (Lit.bool false)) = .lit (.bool (p k)) := by cases p k <;> rfl
    rw [he] at hv
    unfold plainElem at hv
    rw [Try.underlying4] at hv
    cases v <;> simp at hv
    rw [hv.1]
  subst hvb
  unfold Oper.wp
  simp [execOp, hop, hm, hx, hrun, Result.andThen]
  exact hK' _ _ hK
def rem (p : Int → Bool) (k : Int) : Int → Bool := fun x => !decide (x = k) && p x
theorem ReadsB.del {D : DataW Unit} {p : Int → Bool} (h : ReadsB D p) (k : Int) : ReadsB (D.del (.int .i64 k)) (rem p k) := by
  refine ⟨h.1.del _, fun x z => ?_⟩
  by_cases e : x = k
  · subst e
    rw [atKey_del_same]
    simp [rem]
  · rw [atKey_del_other (fun h => by injection h with _ h; exact e h), h.2 x z]
    simp [rem, e]
set_option maxRecDepth 100000 in
theorem wpList_deleteB (w : World) (hg : o.guard = none) (m x : Operand) (hop : o.op = Op.call { callee := Callee.builtin Builtin.delete, args := #[m, x], argTypes := #[108, 3] }) (b n : Nat) (p : Int → Bool) (hm : a.eval m = .map (some b)) (hown : SetF w b n p)
    (k : Int) (hx : a.eval x = .int .i64 k) (hk : (Lit.int .i64 k).wf = true)
    (hK : ∀ w', SetF w' b n (rem p k) → w.grownBy w' (some b) → wpList Try.prog ops Q rest (a.put o.dst (.tuple #[])) w') : wpList Try.prog ops Q (o :: rest) a w := by
  obtain ⟨D, h, r⟩ := hown
  refine wpList_delete_own w hg m x _ _ hop 4 lawI Try.underlying108 _ b n D hm h _ (.int .i64 k) hx (keyOf_int_mk Try.underlying3 hk) fun w' h1 h2 => hK w' ⟨_, h1, r.del k⟩ ?_
  obtain ⟨es, clock, es', clock', hb, rfl⟩ := h2
  exact ⟨rfl, rfl, rfl, by simp [Go.ChangeMaps.setBlock], fun i _ hi => Go.ChangeMaps.heap_setBlock_other hb _ (fun e => hi (by rw [e]))⟩
end
end Go.Proofs.Ytgjbbidcpmglbaa
