/- A slice of ints of the call's own, in one block: its copy, its marking. -/
import Derived.Test.YtjcmdmiafeaeoacIntI
import Derived.Test.YtjcmdmiafeaeoacIntE
import Derived.Test.YtjcmdmiafeaeoacIntT
namespace Go.Proofs.Ytjcmdmiafeaeoac
open Go.ChangeShapes Go.WideShapes Go.ChangeAt Go.RowKit
set_option linter.unusedVariables false
set_option linter.unusedSimpArgs false
def OwnInt (w : World) (g n : Nat) (xs : List Int) : Prop := w.ownsRow g 3 1 (.slice (some ⟨g, 0, none⟩) n n) n (iv xs)
section
variable {w w' : World} {g n : Nat} {xs : List Int}
theorem OwnInt.reads (h : OwnInt w g n xs) : ReadsI w (some ⟨g, 0, none⟩) n xs := reads_own_i h
theorem OwnInt.lt (h : OwnInt w g n xs) : g < w.heap.size := own_lt h g rfl
theorem OwnInt.step (h : OwnInt w g n xs) (hb : Below w.heap.size w w') : OwnInt w' g n xs := own_step h hb
theorem OwnInt.below {B : Nat} (h : OwnInt w g n xs) (hb : Below B w w') (hg : g < B) : OwnInt w' g n xs := own_below_at h hb (fun j hj => by simp [Value.ownBlock] at hj; omega)
theorem OwnInt.alloc (h : OwnInt w g n xs) (o : Obj) : OwnInt (w.alloc o) g n xs := h.step ((Below.refl _ w).alloc (Nat.le_refl _) o)
theorem OwnInt.drew (h : OwnInt w g n xs) : OwnInt w.drew g n xs := h.step (Below.refl _ w).drew
theorem OwnInt.only {g' : Nat} (h : OwnInt w g n xs) (hb : w.grownBy w' (some g')) (hne : g ≠ g') : OwnInt w' g n xs := by
  have hl := OwnInt.lt h
  refine ⟨h.1, ?_⟩
  rcases h.2 with ⟨hn, _⟩ | ⟨g2, cap, cur, hv, hg', hh, rest⟩
  · cases hn
  · injection hv with h1 h2 h3
    injection h1 with h1
    injection h1 with h1
    subst h1
    exact .inr ⟨g, cap, cur, by rw [h3], hg', (hb.block g hl (fun e => by injection e; omega)).trans hh, rest⟩
theorem OwnInt.blk (h : OwnInt w g n xs) : ∃ cur : Array Value, Blk w g 3 cur ∧ cur.size = n := by
  rcases h.2 with ⟨hn, _⟩ | ⟨g2, cap, cur, hv, hg, hh, hnc, hcp, hcs, htake⟩
  · cases hn
  · injection hv with h1 h2 h3
    injection h1 with h1
    injection h1 with h1
    subst h1 h3
    exact ⟨cur, hh, by omega⟩
end
def RowInt (xs : List Int) (w : World) (e : Ending) (w' : World) : Prop :=
  ∃ g, e = .returned (.slice (some ⟨g, 0, none⟩) xs.length xs.length) ∧ OwnInt w' g xs.length xs ∧ w.heap.size ≤ g ∧ Below w.heap.size w w'
/-- a row of ints and one value more -/
def RowV (zs : List Int) (v : Value) (w : World) (e : Ending) (w' : World) : Prop :=
  ∃ A c, e = .returned (.tuple #[.slice A zs.length c, v]) ∧ w'.ownsRow w.heap.size 3 1 (.slice A zs.length c) zs.length (iv zs) ∧ Below w.heap.size w w'
/-- only block g has turned -/
def Only (g : Nat) (v : Value) (w : World) (e : Ending) (w' : World) : Prop := e = .returned v ∧ w.grownBy w' (some g)
theorem eqIntS_c (A B : Option Addr) (n c d : Nat) (xs : List Int) (w : World) (hn : n ≤ maxLen) (hx : ReadsI w A n xs) (hy : ReadsI w B n xs) :
    Calls Try.prog 23 #[.slice A n c, .slice B n d] w (Val (.bool true) w) := eqI_c A B n c d xs w hn hx hy
theorem toIntS_c (A : Option Addr) (n c : Nat) (xs : List Int) (w : World) (hn : (n : Int) ≤ 10000000) (hx : ReadsI w A n xs) :
    Calls Try.prog 22 #[.slice A n c] w (RowInt xs w) := toI_at A n c xs w hn hx
set_option maxHeartbeats 2000000 in
theorem markIntS_c (g n k : Nat) (xs : List Int) (w : World) (hn : n ≤ 1048576) (hk : k ≤ 10000000) (h : OwnInt w g n xs) :
    Calls Try.prog 25 #[.slice (some ⟨g, 0, none⟩) n n, .int .i64 (k : Int)] w (Only g (.int .i64 ((k + 1 * n : Nat) : Int)) w) := by
  obtain ⟨cur0, hb0, hs0⟩ := h.blk
  have HS0 := Lib.hid hs0
  clear hs0 h
  go_enter Try.func25, Try.ntmps25
  go_wp2
  go_loopw [1, 5] (fun q i wr => ∃ (j : Nat) (cur : Array Value), j ≤ n ∧ i = .int .i64 j ∧ q = .int .i64 ((k + 1 * j : Nat) : Int) ∧ Blk wr g 3 cur ∧ cur.size = n ∧ w.grownBy wr (some g)) (fun _ i _ => n - (intOf i).toNat)
  case atStart => exact ⟨0, cur0, Nat.zero_le _, rfl, rfl, hb0, HS0.out, only_refl _ _⟩
  case round =>
    clear hb0 HS0
    obtain ⟨j, cur, hj, rfl, rfl, hK, hs, ho⟩ := hrel
    have HS := Lib.hid hs
    clear hs
    have hkk : (k : Int) ≤ 10000000 := by omega
    by_cases hlt : j < n
    · have hlt2 : j < cur.size := by have := HS.out; omega
      obtain ⟨y0, hy0⟩ : ∃ y, wr.cell? ⟨g, j, none⟩ = some y := ⟨cur[j]'hlt2, by rw [hK.cell]; simp⟩
      have z0 := hK.frozen j
      have hlt3 := hK.lt
      have HK := Lib.hid hK
      clear hK hlt2
      go_wp2
      go_roundw
      case rel =>
        refine ⟨j + 1, _, by omega, by go_num, ?_, HK.out.set_ _ _, by simp; exact HS.out, only_setCell ho (p := ⟨g, j, none⟩) (.inl rfl) _⟩
        exact v_int (by omega)
      case measure => simp [intOf]; omega
    · obtain rfl : j = n := by omega
      go_wp2
      go_ret
      exact ⟨ret_int rfl, ho⟩
end Go.Proofs.Ytjcmdmiafeaeoac
