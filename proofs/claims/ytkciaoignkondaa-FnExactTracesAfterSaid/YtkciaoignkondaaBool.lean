/- Slices of truths: the laws' helpers by contract. -/
import Derived.Test.YtkciaoignkondaaOwnI
import Derived.Test.YtkciaoignkondaaOwnM
import Derived.Test.YtkciaoignkondaaOpen
import Derived.Test.YtkciaoignkondaaQuiet
import Derived.Deep.Slices
import Derived.ChangeSlices
import Derived.BigQuiet
import Derived.Deep.QuietTactic
namespace Go.Proofs.Ytkciaoignkondaa
open Go.ChangeShapes Go.WideShapes Go.ChangeAt Go.RowKit
set_option linter.unusedVariables false
set_option linter.unusedSimpArgs false
set_option maxHeartbeats 2000000

def ReadsBool (w : World) (A : Option Addr) (n : Nat) (bs : List Bool) : Prop := bs.length = n ∧ ∀ k, k < n → ∃ ad, A = some ad ∧ w.cell? (ad.add k) = some (.bool (bs.getD k false))
def OwnBool (w : World) (g n : Nat) (bs : List Bool) : Prop := ∃ cur : Array Value, Blk w g 4 cur ∧ cur.size = n ∧ bs.length = n ∧ ∀ t, t < n → cur[t]? = some (.bool (bs.getD t false))
section
variable {w w' : World} {A : Option Addr} {g n : Nat} {bs : List Bool}
theorem ReadsBool.in_ (h : ReadsBool w A n bs) (hi : In w.heap.size w w') : ReadsBool w' A n bs := ⟨h.1, fun k hk => by
  obtain ⟨ad, hA, hc⟩ := h.2 k hk
  exact ⟨ad, hA, cell_in hc hi⟩⟩
theorem ReadsBool.below (h : ReadsBool w A n bs) (hb : Below w.heap.size w w') : ReadsBool w' A n bs := h.in_ ⟨hb, hb.size⟩
theorem ReadsBool.step (h : ReadsBool w A n bs) (hb : Below w.heap.size w w') : ReadsBool w' A n bs := h.below hb
theorem ReadsBool.alloc (h : ReadsBool w A n bs) (o : Obj) : ReadsBool (w.alloc o) A n bs := h.in_ ((In.refl w).alloc o)
theorem ReadsBool.drew (h : ReadsBool w A n bs) : ReadsBool w.drew A n bs := h.in_ (In.refl w).drew
theorem OwnBool.lt (h : OwnBool w g n bs) : g < w.heap.size := by obtain ⟨cur, hb, _⟩ := h; exact hb.lt
theorem OwnBool.step (h : OwnBool w g n bs) (hb : Below w.heap.size w w') : OwnBool w' g n bs := by obtain ⟨cur, hk, r⟩ := h; exact ⟨cur, hk.step hb, r⟩
theorem OwnBool.below {B : Nat} (h : OwnBool w g n bs) (hb : Below B w w') (hg : g < B) : OwnBool w' g n bs := by obtain ⟨cur, hk, r⟩ := h; exact ⟨cur, hk.below hb hg, r⟩
theorem OwnBool.alloc (h : OwnBool w g n bs) (o : Obj) : OwnBool (w.alloc o) g n bs := h.step ((Below.refl _ w).alloc (Nat.le_refl _) o)
theorem OwnBool.drew (h : OwnBool w g n bs) : OwnBool w.drew g n bs := h.step (Below.refl _ w).drew
theorem OwnBool.only {g' : Nat} (h : OwnBool w g n bs) (hb : w.grownBy w' (some g')) (hne : g ≠ g') : OwnBool w' g n bs := by
  have hl := h.lt
  obtain ⟨cur, hk, r⟩ := h
  exact ⟨cur, (hb.block g hl (fun e => by injection e; omega)).trans hk, r⟩
theorem OwnBool.reads (h : OwnBool w g n bs) : ReadsBool w (some ⟨g, 0, none⟩) n bs := by
  obtain ⟨cur, hb, hs, hl, hc⟩ := h
  exact ⟨hl, fun k hk => ⟨_, rfl, by rw [Addr.add_lit, Nat.zero_add, hb.cell]; exact hc k hk⟩⟩
end
theorem infoBo : (Try.prog.info? 4).map (fun i => (i.zero, i.size, i.bytes)) = some (some (.bool false), 1, 1) := by kernel_rfl
def RowBool (bs : List Bool) (w : World) (e : Ending) (w' : World) : Prop :=
  ∃ g, e = .returned (.slice (some ⟨g, 0, none⟩) bs.length bs.length) ∧ OwnBool w' g bs.length bs ∧ w.heap.size ≤ g ∧ Below w.heap.size w w'
set_option maxHeartbeats 1000000 in
theorem eqBoolS_c (A B : Option Addr) (n c d : Nat) (xs : List Bool) (w : World) (hn : n ≤ maxLen) (hx : ReadsBool w A n xs) (hy : ReadsBool w B n xs) :
    Calls Try.prog 14 #[.slice A n c, .slice B n d] w (Val (.bool true) w) := by
  unfold maxLen at hn
  go_enter Try.func14, Try.ntmps14
  go_wp2
  go_loopw [5] (fun i wr => ∃ (k q : Nat), k ≤ n ∧ i = .int .i64 k ∧ wr = w.drewN q) (fun i _ => n - (intOf i).toNat)
  case atStart => exact ⟨0, 0, Nat.zero_le _, rfl, rfl⟩
  case round =>
    obtain ⟨k, q, hk, rfl, rfl⟩ := hrel
    by_cases hlt : k < n
    · obtain ⟨a, rfl, ha⟩ := hx.2 k hlt
      obtain ⟨b, rfl, hb⟩ := hy.2 k hlt
      generalize xs.getD k false = x at ha hb
      go_wp2
      go_quiet (fail)
      go_wp2
      go_roundw
      case rel => exact ⟨k + 1, _, by omega, by go_num, rfl⟩
      case measure => simp [intOf]; omega
    · go_wp2
      go_ret
      exact ⟨rfl, below_drewN (Below.refl _ _) _⟩
set_option maxHeartbeats 1000000 in
theorem toBoolS_c (A : Option Addr) (n c : Nat) (xs : List Bool) (w : World) (hn : (n : Int) ≤ 10000000) (hx : ReadsBool w A n xs) :
    Calls Try.prog 11 #[.slice A n c] w (RowBool xs w) := by
  obtain ⟨i0, hi0, hz0, hz1, hz2⟩ := info_parts infoBo
  have HLEN := Lib.hid hx.1
  go_enter Try.func11, Try.ntmps11
  go_wp2_with (at_make; refine wpList_make_full _ rfl (.tmp 6) (.tmp 6) 23 rfl w.heap.size 4 i0 (.bool false) 1 Try.underlying23 hi0 hz0 hz1 .i64 .i64 (n : Int) (n : Int) n rfl rfl rfl rfl ?h2 ?h3 ?h4 ?_)
  case h2 => rw [hz2]; omega
  case h3 => unfold maxLen; omega
  case h4 => exact Nat.le_refl _
  intro w1 hown0 hgrow0
  have hb0 : Below w.heap.size w w1 := (Below.refl _ _).grown hgrow0 (Nat.le_refl _) (fun j hj => by cases hj)
  clear hgrow0
  obtain ⟨cur0, hk0, hs0⟩ : ∃ cur : Array Value, Blk w1 w.heap.size 4 cur ∧ cur.size = n := by
    rcases hown0.2 with ⟨h, _⟩ | ⟨g, cap, cur, h, hg, hh, hnc, hcp, hcs, htake⟩
    · cases h
    · injection h with h1 h2 h3
      injection h1 with h1
      injection h1 with h1
      subst h1 h3
      exact ⟨cur, hh, by omega⟩
  have HS0 := Lib.hid hs0
  clear hown0 hs0
  go_wp2
  go_loopw [4] (fun i wr => ∃ (k : Nat) (cur : Array Value), k ≤ n ∧ i = .int .i64 k ∧ Blk wr w.heap.size 4 cur ∧ cur.size = n ∧ (∀ t, t < k → cur[t]? = some (.bool (xs.getD t false))) ∧ Below w.heap.size w wr) (fun i _ => n - (intOf i).toNat)
  case atStart => exact ⟨0, cur0, Nat.zero_le _, rfl, hk0, HS0.out, fun t ht => absurd ht (Nat.not_lt_zero _), hb0⟩
  case round =>
    clear hk0 hb0 HS0
    obtain ⟨k, cur, hk, rfl, hK, hs, hp, hb⟩ := hrel
    have HS := Lib.hid hs
    have HP := Lib.hid hp
    clear hs hp
    by_cases hlt : k < n
    · obtain ⟨a, rfl, ha⟩ := (hx.in_ ⟨hb, hb.size⟩).2 k hlt
      generalize hx0 : xs.getD k false = x at ha
      have HX := Lib.hid hx0
      clear hx0
      obtain ⟨y0, hy0⟩ : ∃ y, wr.cell? ⟨w.heap.size, k, none⟩ = some y := ⟨cur[k]'(by have := HS.out; omega), by rw [hK.cell]; simp⟩
      have z0 := hK.frozen k
      have hK2 := hK.set_ k (.bool x)
      have hb2 : Below w.heap.size w (wr.setCell ⟨w.heap.size, k, none⟩ (.bool x)) := hb.setCell (Nat.le_refl _) _
      clear hK hb
      go_wp2
      go_roundw
      case rel =>
        refine ⟨k + 1, _, by omega, by go_num, hK2, by simp; exact HS.out, fun t ht => ?_, hb2⟩
        rw [Array.getElem?_setIfInBounds]
        have hsz := HS.out
        by_cases e : t = k
        · subst e
          rw [if_pos rfl, if_pos (by omega), HX.out]
        · rw [if_neg (by omega)]
          exact HP.out t (by omega)
      case measure => simp [intOf]; omega
    · obtain rfl : k = n := by omega
      go_wp2
      go_ret
      have hl := HLEN.out
      subst hl
      exact ⟨w.heap.size, rfl, ⟨cur, hK, HS.out, rfl, HP.out⟩, Nat.le_refl _, hb⟩
theorem markBoolS_c (g n k : Nat) (bs : List Bool) (w : World) (hn : n ≤ 1048576) (hk : k ≤ 10000000) (h : OwnBool w g n bs) :
    Calls Try.prog 16 #[.slice (some ⟨g, 0, none⟩) n n, .int .i64 (k : Int)] w (Only g (.int .i64 ((k + 1 * n : Nat) : Int)) w) := by
  obtain ⟨cur0, hb0, hs0, _, _⟩ := h
  have HS0 := Lib.hid hs0
  clear hs0
  go_enter Try.func16, Try.ntmps16
  go_wp2
  go_loopw [1, 5] (fun q i wr => ∃ (j : Nat) (cur : Array Value), j ≤ n ∧ i = .int .i64 j ∧ q = .int .i64 ((k + j : Nat) : Int) ∧ Blk wr g 4 cur ∧ cur.size = n ∧ w.grownBy wr (some g)) (fun _ i _ => n - (intOf i).toNat)
  case atStart => exact ⟨0, cur0, Nat.zero_le _, rfl, rfl, hb0, HS0.out, only_refl _ _⟩
  case round =>
    clear hb0 HS0
    obtain ⟨j, cur, hj, rfl, rfl, hK, hs, hg⟩ := hrel
    have HS := Lib.hid hs
    clear hs
    by_cases hlt : j < n
    · obtain ⟨y0, hy0⟩ : ∃ y, wr.cell? ⟨g, j, none⟩ = some y := ⟨cur[j]'(by have := HS.out; omega), by rw [hK.cell]; simp⟩
      have z0 := hK.frozen j
      have hK2 := fun b => hK.set_ j (.bool b)
      have hg2 : ∀ b, w.grownBy (wr.setCell ⟨g, j, none⟩ (.bool b)) (some g) := fun b => only_setCell hg (p := ⟨g, j, none⟩) (.inl rfl) _
      have HK2 := Lib.hid hK2
      have HG2 := Lib.hid hg2
      clear hK hg hK2 hg2
      go_wp2
      go_roundw
      case rel => exact ⟨j + 1, _, by omega, by go_num, by go_num, HK2.out _, by simp; exact HS.out, HG2.out _⟩
      case measure => simp [intOf]; omega
    · obtain rfl : j = n := by omega
      go_wp2
      go_ret
      exact ⟨ret_int (by simp), hg⟩
theorem openBool {H : Type} {enc : TypeId × Value → H} {w : World} {base : Nat} {held : Bool} {fuel : Nat} {A : Option Addr} {n c : Nat} {x : DataW H × List MemPlace}
    (h : DataW.trod enc Try.prog w base (fun _ => true) held fuel 23 (Value.cells (.slice A n c)).toList = some x) : ∃ zs, n ≤ maxLen ∧ ReadsBool w A n zs := by
  rcases Deep.open_slice1 Try.underlying23 (by kernel_rfl) h with ⟨hcs, _⟩ | ⟨a, len, cap, m, k, V, D, Pl, hcs, hb, hl, hm, hmm, hx, hi⟩
  · simp [Value.cells] at hcs
    obtain ⟨rfl, rfl, rfl⟩ := hcs
    exact ⟨[], Nat.zero_le _, rfl, fun k hk => absurd hk (Nat.not_lt_zero _)⟩
  · simp [Value.cells] at hcs
    obtain ⟨rfl, rfl, rfl⟩ := hcs
    have h2 : ∀ i, i < n → ∃ b : Bool, ∃ ad, some a = some ad ∧ w.cell? (ad.add i) = some (.bool b) := fun i hin => by
      obtain ⟨hc, ht⟩ := hi i (by rw [hmm]; split <;> omega)
      obtain ⟨b, e, _⟩ := DataW.trod_bool Try.underlying4 ht
      simp at e
      exact ⟨b, a, rfl, by rw [hc, e]⟩
    obtain ⟨xs, hxl, hxx⟩ := list_of false _ n h2
    exact ⟨xs, by omega, hxl, hxx⟩
end Go.Proofs.Ytkciaoignkondaa
