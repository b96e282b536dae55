/- The drawn texts: their contracts. -/
import Derived.Test.YtbnmbnkgpggnmaaDoorCur
import Derived.Test.YtbnmbnkgpggnmaaDoorHexDef
import Derived.WalkSpells
namespace Go.Proofs.YtbnmbnkgpggnmaaDoor
open Go.ChangeShapes Go.WideShapes Go.ChangeAt Go.RowKit
set_option linter.unusedVariables false

theorem bv_set (l : List UInt8) (k : Nat) (b : UInt8) : bv (l.set k b) = (bv l).set k (.int .u8 (b.toNat : Int)) := by simp [bv, List.map_set]
theorem bv_zeros (n : Nat) : List.replicate n (Value.int .u8 0) = bv (List.replicate n 0) := by simp [bv]
theorem bv_at (l : List UInt8) (k : Nat) (h : k < l.length) : (bv l)[k]? = some (.int .u8 (l[k].toNat : Int)) := by simp [bv, h]

/-- some text of n bytes -/
def TextN (n : Nat) (w : World) (e : Ending) (w' : World) : Prop := ∃ s : ByteArray, s.size = n ∧ e = .returned (.string s) ∧ Below w.heap.size w w'

set_option maxHeartbeats 1000000 in
theorem long_c (n : Nat) (x : UInt8) (w : World) (hn : n ≤ 100000) :
    Calls Tryd.prog 23 #[.int .i64 n, .int .u8 (x.toNat : Int)] w (TextN n w) := by
  obtain ⟨i0, hi0, hz0, hz1, hz2⟩ := info_parts info5
  go_enter Tryd.func23, Tryd.ntmps23
  go_wp2_with (at_make; refine wpList_make_full _ rfl (.tmp 7) (.tmp 7) 22 rfl w.heap.size 5 i0 (.int .u8 0) 1 Tryd.underlying22 hi0 hz0 hz1 .i64 .i64 (n : Int) (n : Int) n rfl rfl rfl rfl ?h2 ?h3 ?h4 ?_)
  case h2 => rw [hz2]; omega
  case h3 => unfold maxLen; omega
  case h4 => exact Nat.le_refl _
  intro w1 hown0 hgrow0
  have hb0 : Below w.heap.size w w1 := (Below.refl _ _).grown hgrow0 (Nat.le_refl _) (fun j hj => by cases hj)
  clear hgrow0
  have hown1 : w1.ownsRow w.heap.size 5 1 (.slice (some ⟨w.heap.size, 0, none⟩) n n) n (bv (List.replicate n 0)) := by
    rw [toList_madeCells_one, bv_zeros] at hown0; exact hown0
  clear hown0
  go_wp2
  go_loopw [6] (fun i wr => ∃ (k : Nat) (l : List UInt8), k ≤ n ∧ i = .int .i64 k ∧ l.length = n ∧ wr.ownsRow w.heap.size 5 1 (.slice (some ⟨w.heap.size, 0, none⟩) n n) n (bv l) ∧ Below w.heap.size w wr) (fun i _ => n - (intOf i).toNat)
  case atStart => exact ⟨0, _, Nat.zero_le _, rfl, by simp, hown1, hb0⟩
  case round =>
    clear hown1 hb0
    obtain ⟨k, l, hk, rfl, hl, hown, hb⟩ := hrel
    have HL := Lib.hid hl
    clear hl
    by_cases hlt : k < n
    · have hc := hown.cellAt k (by omega)
      rw [bv_at l k (by have := HL.out; omega)] at hc
      have hf := hown.frozenAt k
      have hst := (hown.stored k (.int .u8 (x.toNat : Int))).1
      rw [← bv_set] at hst
      have hb1 : Below w.heap.size w (wr.setCell ⟨w.heap.size, k, none⟩ (.int .u8 (x.toNat : Int))) := hb.setCell (Nat.le_refl _) _
      go_wp2
      have HC := Lib.hid hc
      clear hc hf
      go_roundw
      case rel => exact ⟨k + 1, _, by omega, by go_num, by have := HL.out; simp; omega, hst, hb1⟩
      case measure => simp [intOf]; omega
    · obtain rfl : k = n := by omega
      have hcv := conv_own (P := Tryd.prog) _ 22 9 5 _ _ _ _ Tryd.underlying22 Tryd.underlying5 Tryd.underlying9 hown
      go_wp2
      go_ret
      exact ⟨⟨l.toArray⟩, by have := HL.out; show l.toArray.size = _; simp; omega, rfl, hb⟩

theorem St.below_at {B g base : Nat} {W0 w1 w2 : World} (h : St B g W0 w1) (hb : Below base w1 w2) (hg : g < base) (hB : B ≤ base) (hW : W0.heap.size ≤ base) : St B g W0 w2 := by
  obtain ⟨⟨a, len, cap, i, x, hblk, hBg, hi, hby⟩, h2⟩ := h
  exact ⟨⟨a, len, cap, i, x, hblk.below hb hg, hBg, hi, hby.keep fun p hp => hb.cell (by omega)⟩,
    ⟨hb.os.trans h2.os, hb.tape.trans h2.tape, hb.output.trans h2.output, Nat.le_trans h2.size hb.size, fun j hj hne => (hb.block j (by omega)).trans (h2.block j hj hne)⟩⟩

theorem long_i (x b : Int) (w : World) (h0 : 0 ≤ x) (h1 : x ≤ 100000) (hb0 : 0 ≤ b) (hb1 : b < 256) :
    Calls Tryd.prog 23 #[.int .i64 x, .int .u8 b] w (TextN x.toNat w) := by
  have h := long_c x.toNat (UInt8.ofNat b.toNat) w (by omega)
  rw [show ((x.toNat : Nat) : Int) = x from by omega, show (((UInt8.ofNat b.toNat).toNat : Nat) : Int) = b from by simp [UInt8.toNat_ofNat']; omega] at h
  exact h

/-- some text of at most m bytes, drawn -/
def GotT (m : Nat) (B g : Nat) (W0 : World) (e : Ending) (w' : World) : Prop := ∃ s : ByteArray, s.size ≤ m ∧ e = .returned (.string s) ∧ St B g W0 w'

theorem wrap_u8 (x : Int) (h0 : 0 ≤ x) (h1 : x ≤ 255) : IntKind.u8.wrap x = ((UInt8.ofNat x.toNat).toNat : Int) := by
  rw [IntWalk.u8_in _ (by omega)]
  simp [UInt8.toNat_ofNat']; omega
theorem one_cell (b : UInt8) : ∀ u ∈ (#[Value.int .u8 (b.toNat : Int)] : Array Value).toList, u.oneCell' = true := by simp [Value.oneCell']

set_option maxHeartbeats 1000000 in
theorem text_s (n : Nat) (B g : Nat) (W0 w : World) (hn : (n : Int) ≤ 4000) (h : St B g W0 w) :
    Calls Tryd.prog 25 #[.pointer (some ⟨g, 0, none⟩), .int .i64 n] w (GotT n B g W0) := by
  obtain ⟨i0, hi0, hz0, hz1, hz2⟩ := info_parts info5
  have hglt := h.1.lt
  have hB : B ≤ w.heap.size := by have := h.1.ge; omega
  have hown0 := own_new w 5 w.heap.size (Nat.le_refl _)
  have hs0 : St B g W0 (w.alloc (.cells #[] 5)) := h.alloc _
  go_enter Tryd.func25, Tryd.ntmps25
  go_wp2
  go_loopw [5, 6] (fun v i wr => ∃ (k : Nat) (l : List UInt8), k ≤ n ∧ i = .int .i64 k ∧ l.length = k ∧ wr.ownsRow w.heap.size 5 1 v k (bv l) ∧ St B g W0 wr ∧ w.heap.size ≤ wr.heap.size) (fun _ i _ => n - (intOf i).toNat)
  case atStart => exact ⟨0, [], Nat.zero_le _, rfl, rfl, hown0, hs0, by simp⟩
  case round =>
    clear hown0 hs0
    obtain ⟨k, l, hk, rfl, hl, hown, hs, hsz⟩ := hrel
    have HL := Lib.hid hl
    clear hl
    by_cases hlt : k < n
    · go_wp2_with fail
      refine (byte_s B g wr _ ⟨hs.1, only_refl _ _⟩).mono ?_
      rintro e w1 ⟨x, ⟨hx0, hx1⟩, rfl, hs1⟩
      have hown1 : w1.ownsRow w.heap.size 5 1 u5 k (bv l) := hown.kept hs1.2 (.inr fun e => by
        have := own_block_le hown g e
        omega)
      have hs2 : St B g W0 w1 := ⟨hs1.1, only_trans hs.2 hs1.2⟩
      have hsz1 : w.heap.size ≤ w1.heap.size := Nat.le_trans hsz hs1.2.size
      clear hs1 hown hs
      obtain ⟨b, hb⟩ : ∃ b : UInt8, IntKind.u8.wrap x = (b.toNat : Int) := ⟨_, wrap_u8 x hx0 hx1⟩
      have F1 := Lib.hid (one_cell b)
      have f2 : k + 1 ≤ maxLen := by unfold maxLen; omega
      have f3 : (k + 1) * 1 ≤ 140737488355328 := by omega
      go_wp2_with (at_builtin; refine wpList_app w1 rfl (.tmp 15) (.tmp 19) 22 rfl w.heap.size 5 i0 (.int .u8 0) 1 1 Tryd.underlying22 hi0 hz0 hz1 hz2 rfl Nat.one_pos u5 k (bv l) rfl hown1 1 #[.int .u8 (b.toNat : Int)] rfl rfl F1.out f2 f3 hsz1 ?_; intro v2 w2 hown2 hbw2)
      have hown3 : w2.ownsRow w.heap.size 5 1 v2 (k + 1) (bv (l ++ [b])) := by rw [bv_app]; exact hown2
      have hs3 : St B g W0 w2 := hs2.below_at hbw2 hglt hB h.2.size
      have hsz2 : w.heap.size ≤ w2.heap.size := Nat.le_trans hsz1 hbw2.size
      clear hown2 hbw2 hown1 hs2 hb f2 f3
      go_wp2
      go_roundw
      case rel => exact ⟨k + 1, l ++ [b], by omega, by go_num, by have := HL.out; simp; omega, hown3, hs3, hsz2⟩
      case measure => simp [intOf]; omega
    · obtain rfl : k = n := by omega
      have hcv := conv_own (P := Tryd.prog) _ 22 9 5 _ _ _ _ Tryd.underlying22 Tryd.underlying5 Tryd.underlying9 hown
      go_wp2
      go_ret
      exact ⟨⟨l.toArray⟩, by have := HL.out; show l.toArray.size ≤ _; simp; omega, rfl, hs⟩
end Go.Proofs.YtbnmbnkgpggnmaaDoor
