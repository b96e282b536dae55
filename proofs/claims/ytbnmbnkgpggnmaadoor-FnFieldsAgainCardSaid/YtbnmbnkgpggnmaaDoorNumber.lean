import Derived.Test.YtbnmbnkgpggnmaaDoorCur
namespace Go.Proofs.YtbnmbnkgpggnmaaDoor
open Go.ChangeShapes Go.WideShapes Go.ChangeAt Go.RowKit
set_option linter.unusedVariables false

theorem pickNew_s (xs : List Int) (cs : Array Value) (n : Nat) (B g : Nat) (W0 w : World) (h0 : 0 < n) (h1 : n ≤ 1000) (hl : xs.length = n) (hcs : cs = (xs.map (Value.int .i64)).toArray) (h : St B g W0 w) :
    Calls Tryd.prog 36 #[.pointer (some ⟨g, 0, none⟩), .slice (some ⟨w.heap.size, 0, none⟩) n n] (w.alloc (.cells cs 3)) (Got B g W0 fun x => x ∈ xs) := by
  have hg := h.1.lt
  subst hcs
  exact pickInt_s xs w.heap.size n n B g W0 _ h0 h1 hl (fun i hi => by
    rw [(Blk.new w 3 (xs.map (Value.int .i64)).toArray).cell i]
    simp [show i < xs.length from by omega]) (by omega) (by simp) (h.alloc _)

def numList : List Int := [-1, 0, 127, 128, 16383, 16384, 1000000000, 1000000001, 9223372036854775807, -9223372036854775808]
theorem numList_wf : ∀ x ∈ numList, (Lit.int .i64 x).wf = true := by
  intro x hx
  have h : numList.all (fun x => (Lit.int .i64 x).wf) = true := by decide +kernel
  exact (List.all_eq_true.1 h) x hx

theorem wf_of (x : Int) (h0 : 0 ≤ x) (h1 : x < 1000000000) : (Lit.int .i64 x).wf = true := WalkArith.wf_i64 (by omega)

set_option maxHeartbeats 1000000 in
theorem number_s (B g : Nat) (W0 w : World) (h : St B g W0 w) :
    Calls Tryd.prog 28 #[.pointer (some ⟨g, 0, none⟩)] w (Got B g W0 fun x => (Lit.int .i64 x).wf = true) := by
  go_enter Tryd.func28, Tryd.ntmps28
  go_wp2_with fail
  refine (below_s 4 B g W0 _ (by omega) (by omega) h).mono ?_
  rintro e w1 ⟨x, ⟨hx0, hx1⟩, rfl, hs⟩
  rcases (show x = 0 ∨ x = 1 ∨ 1 < x from by omega) with rfl | rfl | hx
  · go_wp2_with fail
    refine (pickNew_s numList _ 10 B g W0 w1 (by omega) (by omega) rfl rfl hs).mono ?_
    rintro e w2 ⟨y, hy, rfl, hs2⟩
    have HY := Lib.hid hy
    clear hy
    go_wp2_with fail
    go_ret
    exact ⟨_, numList_wf _ HY.out, rfl, hs2⟩
  · go_wp2_with fail
    refine (below_s 1000000000 B g W0 _ (by omega) (by omega) hs).mono ?_
    rintro e w2 ⟨y, ⟨hy0, hy1⟩, rfl, hs2⟩
    go_wp2_with fail
    go_ret
    exact ⟨_, wf_of _ hy0 hy1, rfl, hs2⟩
  · go_wp2_with fail
    refine (below_s 400 B g W0 _ (by omega) (by omega) hs).mono ?_
    rintro e w2 ⟨y, ⟨hy0, hy1⟩, rfl, hs2⟩
    go_wp2_with fail
    go_ret
    exact ⟨_, wf_of _ hy0 (by omega), rfl, hs2⟩

theorem St.fin {B g : Nat} {W w0 w : World} (hB : B = W.heap.size) (hb : Below W.heap.size W w0) (h : St B g w0 w) (hg : B ≤ g) : Below W.heap.size W w := by
  subst hB
  exact hb.trans (below_of_only h.2 hg hb.size)

end Go.Proofs.YtbnmbnkgpggnmaaDoor
