/- A map of the call's own among the rows; slices.Clone of events. -/
import Derived.Test.YtmcfghklfkmfkaaMapI
import Derived.Test.YtmcfghklfkmfkaaOCEvent
import Derived.Test.YtmcfghklfkmfkaaWBook
import Derived.Lib.SliceRun
namespace Go.Proofs.Ytmcfghklfkmfkaa
open Go.ChangeShapes Go.WideShapes Go.ChangeAt Go.RowKit Go.Maps
set_option linter.unusedVariables false
set_option linter.unusedSimpArgs false
set_option maxHeartbeats 2000000

set_option maxRecDepth 100000 in
theorem MapF.run {w : World} {b n : Nat} {f : Int → Option Int} (h : MapF w b n f) (k : Int) (hk : (Lit.int .i64 k).wf = true) : (Instr.lookup 132 (.map (some b)) (.int .i64 k) false).run Try.prog w = .ok (.int .i64 ((f k).getD 0)) w := by
  obtain ⟨D, h, r1, r2⟩ := h
  obtain ⟨c, hrun, hat, hwc⟩ := h.lookup_int lawI Try.underlying132 Try.underlying3 (zeroI _) (key := .int .i64 k) (keyOf_int_mk Try.underlying3 hk)
  rw [r2] at hat
  cases hf : f k with
  | none =>
    rw [hf] at hat
    simp only at hat
    injection hat with hat
    injection hat with _ hat
    subst hat
    exact hrun
  | some v =>
    rw [hf] at hat
    simp only at hat
    injection hat with hat
    injection hat with _ hat
    subst hat
    exact hrun
theorem wf_64 {x : Int} (h : -9223372036854775808 ≤ x ∧ x ≤ 9223372036854775807) : (Lit.int .i64 x).wf = true := by
  simp [Lit.wf, IntKind.min, IntKind.max, IntKind.signed, IntKind.bits] at h ⊢; omega
/-- a map of the call's own, as a row -/
def MapO (w : World) (g n c : Nat) (f : Int → Option Int) : Prop := MapF w g n f
section
variable {w w' : World} {g n c : Nat} {f : Int → Option Int}
theorem MapO.lt (h : MapO w g n c f) : g < w.heap.size := MapF.lt h
theorem MapO.step (h : MapO w g n c f) (hb : Below w.heap.size w w') : MapO w' g n c f := MapF.step h hb
theorem MapO.alloc (h : MapO w g n c f) (o : Obj) : MapO (w.alloc o) g n c f := MapF.alloc h o
theorem MapO.drew (h : MapO w g n c f) : MapO w.drew g n c f := h
theorem MapO.drewN (h : MapO w g n c f) (q : Nat) : MapO (w.drewN q) g n c f := MapO.step h (below_drewN (Below.refl _ w) q)
theorem MapO.ne {g' : Nat} {t : TypeId} {cs : Array Value} (h : MapO w g n c f) (hk : Blk w g' t cs) (ht : True) : g ≠ g' := by
  intro e
  subst e
  obtain ⟨D, ⟨es, clock, hm, _⟩, _⟩ := h
  have := hm.symm.trans hk
  injection this with this
  injection this
theorem MapO.only {g' : Nat} (h : MapO w g n c f) (hb : w.grownBy w' (some g')) (hne : g ≠ g') : MapO w' g n c f := MapF.kept h hb (fun e => hne (Option.some.inj e))
theorem MapO.far {g' : Nat} {t : TypeId} {cs : Array Value} (h : MapO w g n c f) (hk : Blk w g' t cs) (ht : True) (hb : w.grownBy w' (some g')) : MapO w' g n c f := h.only hb (h.ne hk ht)
end
theorem iCloneE (ga n ca : Nat) (xs : List EventR) (w : World) (hn : n ≤ 10000000) (hx : ReadsEvent w (some ⟨ga, 0, none⟩) n xs) :
    Calls Try.prog 73 #[.slice (some ⟨ga, 0, none⟩) n ca] w (fun e w' => ∃ g c, e = .returned (.slice (some ⟨g, 0, none⟩) n c) ∧ OCEvent w' g n c xs ∧ w.heap.size ≤ g ∧ Below w.heap.size w w') := by
  obtain ⟨ti, hti, htz, hts, htb⟩ := infoEvent_p
  have hlen := hx.1
  have hown0 := own_emptyEvent w
  have hnews := OCEvent.news (hx.alloc (.cells #[] 78))
  have HL := Lib.hid (show (flEvent xs).length = n * 2 by rw [flEvent_len, hlen])
  have H1 := Lib.hid (flEvent_one xs)
  have HBy : Hid ((0 + n) * ti.bytes ≤ 140737488355328) := Lib.hid (by have h9 : (0 + n) * ti.bytes ≤ (0 + n) * 64 := Nat.mul_le_mul_left _ htb; omega)
  have HMx : Hid (0 + n ≤ maxLen) := Lib.hid (by unfold maxLen; omega)
  have hnil := fun (w : World) => Lib.run_eql_slice_nil (P := Try.prog) w 40 78 (some ⟨ga, 0, none⟩) n ca 0 0 Try.underlying40
  clear hn
  go_enter Try.func73, Try.ntmps73
  go_wp2_with (at_builtin; refine append_stop rfl ?_)
  refine Stop.go (wpList_append_own _ rfl (.tmp 5) (.tmp 6) 40 rfl w.heap.size 78 ti (.agg #[.int .i64 0, .int .i64 0]) 2 ti.bytes Try.underlying40 hti htz hts rfl rfl (by decide) (.slice (some ⟨w.heap.size, 0, none⟩) 0 0) 0 [] rfl hown0 ⟨ga, 0, none⟩ n ca (flEvent xs) rfl HL.out hnews H1.out HMx.out HBy.out (by simp) ?_)
  intro v1 w1 hown1 hgr1 hif1
  obtain ⟨g, c1, rfl, hg, ho⟩ := OCEvent.of (xs := xs) (by simpa using hown1) (by first | exact hif1 | (intro e9; exact absurd (hif1.1 e9).1 (by simp)))
  have hb0 : Below w.heap.size w w1 := ((Below.refl _ w).alloc (Nat.le_refl _) _).grown hgr1 (by simp) (fun j hj => by simp [Value.ownBlock] at hj; omega)
  have HR := Lib.hid (show ∃ g' c, Ending.returned (.slice (some ⟨g, 0, none⟩) n c1) = .returned (.slice (some ⟨g', 0, none⟩) n c) ∧ OCEvent w1 g' n c xs ∧ w.heap.size ≤ g' ∧ Below w.heap.size w w1 from ⟨g, c1, rfl, ho, hg, hb0⟩)
  clear hown1 hgr1 hif1 ho hg hb0 hown0 hnews
  go_wp2
  go_ret
  exact HR.out
end Go.Proofs.Ytmcfghklfkmfkaa
