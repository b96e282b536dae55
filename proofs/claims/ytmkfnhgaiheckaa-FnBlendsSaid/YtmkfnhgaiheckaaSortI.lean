/- sortedIndices: by contract. -/
import Derived.Test.YtmkfnhgaiheckaaSort
import Derived.Test.YtmkfnhgaiheckaaOwnI
import Derived.Test.YtmkfnhgaiheckaaIntR
import Derived.IntWalk
namespace Go.Proofs.Ytmkfnhgaiheckaa
open Go.ChangeShapes Go.WideShapes Go.ChangeAt Go.RowKit
set_option linter.unusedVariables false
set_option linter.unusedSimpArgs false
set_option maxHeartbeats 2000000
set_option maxRecDepth 20000

theorem stab (F : FuncId) (cp : Value) (cv : Int → Int → Int) (B g n : Nat) (w : World) (hB : B ≤ g) (hBw : B ≤ w.heap.size) (h20 : n ≤ 19) (hF : ∀ (args : Array Value) (w : World), Sem.run Try.prog (callFunc F args) w = .ok (.enter F args) w) (hC : Cmps F cp cv B n w) (hW : Ways w g n (fun u => (u : Int))) :
    Calls Try.prog 201 #[.slice (some ⟨g, 0, none⟩) n n, .int .i64 (n : Int), .func (Fn.func F) #[] #[cp]] w (Sorted B g n (ltOf cv) w) := by
  have HI := Lib.hid (insSort F cp cv B g n w hB hBw (by omega) hF hC hW)
  clear hC hW
  go_enter Try.func201, Try.ntmps201
  go_wp2
  go_loopw [7, 8] (fun a b wr => a = .int .i64 0 ∧ b = .int .i64 20 ∧ wr = w) (fun _ _ _ => 0)
  case atStart => exact ⟨rfl, rfl, rfl⟩
  case round =>
    obtain ⟨rfl, rfl, rfl⟩ := hrel
    go_wp2_with fail
    refine HI.out.mono ?_
    rintro _ w1 ⟨rfl, hw1, i1⟩
    have HW1 := Lib.hid hw1
    clear hw1
    go_wp2
    go_loopw [6] (fun v wr2 => v = .int .i64 20 ∧ wr2 = w1) (fun _ _ => 0)
    case atStart => exact ⟨rfl, rfl⟩
    case round =>
      obtain ⟨rfl, rfl⟩ := hrel
      go_wp2
      go_end0
      exact ⟨rfl, HW1.out, i1⟩
theorem sortStable (F : FuncId) (cp : Value) (cv : Int → Int → Int) (B g n : Nat) (w : World) (hB : B ≤ g) (hBw : B ≤ w.heap.size) (h20 : n ≤ 19) (hF : ∀ (args : Array Value) (w : World), Sem.run Try.prog (callFunc F args) w = .ok (.enter F args) w) (hC : Cmps F cp cv B n w) (hW : Ways w g n (fun u => (u : Int))) :
    Calls Try.prog 183 #[.slice (some ⟨g, 0, none⟩) n n, .func (Fn.func F) #[] #[cp]] w (Sorted B g n (ltOf cv) w) := by
  have HI := Lib.hid (stab F cp cv B g n w hB hBw h20 hF hC hW)
  clear hC hW
  go_enter Try.func183, Try.ntmps183
  go_wp2_with fail
  refine HI.out.mono ?_
  rintro _ w1 ⟨rfl, hw1, i1⟩
  have HW1 := Lib.hid hw1
  clear hw1
  go_wp2
  go_end0
  exact ⟨rfl, HW1.out, i1⟩
theorem iv_map (f : Nat → Int) (n : Nat) : iv ((List.range n).map f) = (List.range n).map (fun u => Value.int .i64 (f u)) := by simp [iv]
theorem Ways.own {w : World} {g n : Nat} {f : Nat → Int} (h : Ways w g n f) (B : Nat) (hB : B ≤ g) (hn : n ≤ 100000) : w.ownsRow B 3 1 (.slice (some ⟨g, 0, none⟩) n n) n (iv ((List.range n).map f)) := by
  obtain ⟨cur, hb, hs, hc⟩ := h
  refine ⟨by simp [iv], .inr ⟨g, n, cur, rfl, hB, hb, Nat.le_refl _, by unfold maxLen; omega, by simpa using hs, ?_⟩⟩
  apply List.ext_getElem?
  intro i
  rw [iv_map]
  by_cases hi : i < n
  · have := hc i hi
    simp [hi, this]
  · simp [hi]; omega
theorem own_row {w : World} {B g n : Nat} {ps : List Int} (h : OwnInt w g n ps) (hB : B ≤ g) : w.ownsRow B 3 1 (.slice (some ⟨g, 0, none⟩) n n) n (iv ps) := by
  refine ⟨h.1, ?_⟩
  rcases h.2 with ⟨hn, _⟩ | ⟨g2, cap, cur, hv, hg, rest⟩
  · cases hn
  · exact .inr ⟨g2, cap, cur, hv, Nat.le_trans hB hg, rest⟩
theorem iIndices (F : FuncId) (cp : Value) (cv : Int → Int → Int) (n : Nat) (w : World) (h20 : n ≤ 19) (hF : ∀ (args : Array Value) (w : World), Sem.run Try.prog (callFunc F args) w = .ok (.enter F args) w) (hC : Cmps F cp cv w.heap.size n w) :
    Calls Try.prog 123 #[.int .i64 (n : Int), .func (Fn.func F) #[] #[cp]] w (RowInt (srtL (ltOf cv) n) w) := by
  obtain ⟨i0, hi0, hz0, hz1, hz2⟩ := info_parts infoI
  have HC := Lib.hid hC
  have HFF := Lib.hid hF
  clear hC hF
  go_enter Try.func123, Try.ntmps123
  go_wp2_with (at_make; refine wpList_make_full _ rfl (.tmp 7) (.tmp 7) 43 rfl w.heap.size 3 i0 (.int .i64 0) 1 Try.underlying43 hi0 hz0 hz1 .i64 .i64 (n : Int) (n : Int) n rfl rfl rfl rfl ?h2 ?h3 ?h4 ?_)
  case h2 => rw [hz2]; omega
  case h3 => unfold maxLen; omega
  case h4 => exact Nat.le_refl _
  intro w1 hown0 hgrow0
  have hwo : Ways w1 w.heap.size n (fun u => if u < 0 then (u : Int) else 0) := (ways_made (by rw [toList_madeCells_one] at hown0; exact hown0)).congr (fun u hu => by simp)
  have hb0 : Below w.heap.size w w1 := (Below.refl _ _).grown hgrow0 (Nat.le_refl _) (fun j hj => by cases hj)
  have i1 : In w.heap.size w w1 := ⟨hb0, hb0.size⟩
  clear hown0 hgrow0 hb0
  obtain ⟨g, hg⟩ : ∃ g, g = w.heap.size := ⟨_, rfl⟩
  have HG := Lib.hid hg
  rw [← hg] at hwo ⊢
  clear hg
  go_wp2
  go_loopw [11] (fun v wr => ∃ k : Nat, k ≤ n ∧ v = .int .i64 k ∧ Ways wr g n (fun u => if u < k then (u : Int) else 0) ∧ In w.heap.size w wr) (fun v _ => n - (intOf v).toNat)
  case atStart => exact ⟨0, Nat.zero_le _, rfl, hwo, i1⟩
  case round =>
    clear hwo i1
    obtain ⟨k, hk, rfl, hw, hi⟩ := hrel
    by_cases hlt : k < n
    · have hck := hw.cell k hlt
      have hfr := hw.free k
      have hw2 := Lib.hid (hw.set_ k k (fun u => if u < k + 1 then (u : Int) else 0) (by simp) (fun u hu => by
        by_cases e : u < k
        · rw [if_pos e, if_pos (by omega)]
        · rw [if_neg e, if_neg (by omega)]) hlt)
      generalize (if k < k then (k : Int) else 0) = y at hck
      clear hw
      go_wp2
      go_roundw
      case rel => exact ⟨k + 1, by omega, by go_num, hw2.out, hi.set_ (p := ⟨g, k, none⟩) (by have := HG.out; show w.heap.size ≤ g; omega) _⟩
      case measure => simp [intOf]; omega
    · obtain rfl : k = n := by omega
      have hww : Ways wr g k (fun u => (u : Int)) := hw.congr fun u hu => by rw [if_pos hu]
      have HS := Lib.hid (sortStable F cp cv w.heap.size g k wr (Nat.le_of_eq HG.out.symm) hi.size h20 HFF.out (fun x y w' h1 h2 h3 h4 h5 => HC.out x y w' h1 h2 h3 h4 ⟨hi.below.trans h5.below, h5.size⟩) hww)
      clear hw hww
      go_wp2_with fail
      refine HS.out.mono ?_
      rintro _ w2 ⟨rfl, hw2, i2⟩
      have hres := hw2.own w.heap.size (Nat.le_of_eq HG.out.symm) (by omega)
      have hres2 := hw2.own g (Nat.le_refl _) (by omega)
      have HR : Hid (RowInt (srtL (ltOf cv) k) w (.returned (.slice (some ⟨g, 0, none⟩) k k)) w2) := Lib.hid ⟨g, by rw [srtL_len], by rw [srtL_len]; exact hres2, Nat.le_of_eq HG.out.symm, hi.below.trans i2.below⟩
      clear hres hres2 hw2 HS
      go_wp2
      go_ret
      exact HR.out
end Go.Proofs.Ytmkfnhgaiheckaa
