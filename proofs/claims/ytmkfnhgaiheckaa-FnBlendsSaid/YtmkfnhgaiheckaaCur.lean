/- The cursor of the draws: its contracts. -/
import Derived.Test.YtmkfnhgaiheckaaRows
import Derived.Test.YtmkfnhgaiheckaaBase
import Derived.Deep.QuietTactic
import Derived.BigQuiet
import Derived.Laws.BitsAllLaws
import Derived.Outline
namespace Go.Proofs.Ytmkfnhgaiheckaa
open Go.ChangeShapes Go.WideShapes Go.ChangeAt Go.RowKit
set_option linter.unusedVariables false

/-- bytes that came in, below block B -/
def Bytes (w : World) (B : Nat) (a : Option Addr) (len : Nat) : Prop :=
  len ≤ maxLen ∧ ∀ k, k < len → ∃ ad x, a = some ad ∧ ad.block < B ∧ w.cell? (ad.add k) = some (.int .u8 x) ∧ 0 ≤ x ∧ x < 256
def Cur (B g : Nat) (w : World) : Prop :=
  ∃ (a : Option Addr) (len cap i : Nat) (h : Int), Blk w g 203 #[.slice a len cap, .int .i64 i, .int .i64 h] ∧ B ≤ g ∧ i ≤ len ∧ Bytes w B a len
theorem Bytes.keep {w w' : World} {B : Nat} {a : Option Addr} {len : Nat} (h : Bytes w B a len) (hk : ∀ p : Addr, p.block < B → w'.cell? p = w.cell? p) : Bytes w' B a len :=
  ⟨h.1, fun k hk' => by
    obtain ⟨ad, x, e, hb, hc, h0⟩ := h.2 k hk'
    exact ⟨ad, x, e, hb, (hk _ (by rw [block_of_add]; exact hb)).trans hc, h0⟩⟩
theorem Cur.lt {B g : Nat} {w : World} (h : Cur B g w) : g < w.heap.size := by
  obtain ⟨a, len, cap, i, h, hblk, _⟩ := h; exact hblk.lt
theorem Cur.ge {B g : Nat} {w : World} (h : Cur B g w) : B ≤ g := by
  obtain ⟨a, len, cap, i, h, hblk, hg, _⟩ := h; exact hg
/-- what is made elsewhere leaves the cursor -/
theorem Cur.below {B g : Nat} {w w' : World} (h : Cur B g w) (hb : Below w.heap.size w w') : Cur B g w' := by
  have hlt := h.lt
  obtain ⟨a, len, cap, i, h, hblk, hg, hi, hby⟩ := h
  exact ⟨a, len, cap, i, h, hblk.below hb hlt, hg, hi, hby.keep fun p hp => hb.cell (by omega)⟩
theorem Cur.alloc {B g : Nat} {w : World} (h : Cur B g w) (o : Obj) : Cur B g (w.alloc o) := h.below ((Below.refl _ _).alloc (Nat.le_refl _) _)
theorem Cur.drew {B g : Nat} {w : World} (h : Cur B g w) : Cur B g w.drew := h
theorem Cur.drewN {B g : Nat} {w : World} (h : Cur B g w) (n : Nat) : Cur B g (w.drewN n) := h

def Drawn (B g : Nat) (w : World) (P : Int → Prop) (e : Ending) (w' : World) : Prop :=
  ∃ x : Int, P x ∧ e = .returned (.int .i64 x) ∧ Cur B g w' ∧ w.grownBy w' (some g)

theorem and255 (a : Int) : 0 ≤ bits .and .i64 a 255 ∧ bits .and .i64 a 255 ≤ 255 := by
  have hle : (BitVec.ofInt 64 a &&& 255#64).toNat ≤ 255 := by rw [BitVec.toNat_and]; exact Nat.and_le_right
  have e : bits .and .i64 a 255 = IntKind.i64.wrap ((BitVec.ofInt 64 a &&& 255#64).toNat : Int) := rfl
  rw [e, IntKind.wrap_i64]
  omega

theorem keep2 {w : World} {B g : Nat} (p : Addr) (hp : p.block < B) (hg : B ≤ g) (u v : Value) (n : Nat) : (((w.setCell ⟨g, 2, none⟩ u).drewN n).setCell ⟨g, 1, none⟩ v).cell? p = w.cell? p := by
  rw [World.cell?_setCell_other _ _ _ _ (fun e => by subst e; simp at hp; omega)]
  exact World.cell?_setCell_other _ _ _ _ (fun e => by subst e; simp at hp; omega)

theorem end1 {B g : Nat} {w : World} {a : Option Addr} {len cap i : Nat} {h : Int} (hblk : Blk w g 203 #[.slice a len cap, .int .i64 i, .int .i64 h]) (hg : B ≤ g) (hlt : i < len) (hby : Bytes w B a len) (u v : Int) (hv : v = i + 1) (n : Nat) :
    Cur B g (((w.setCell ⟨g, 2, none⟩ (.int .i64 u)).drewN n).setCell ⟨g, 1, none⟩ (.int .i64 v)) ∧ w.grownBy (((w.setCell ⟨g, 2, none⟩ (.int .i64 u)).drewN n).setCell ⟨g, 1, none⟩ (.int .i64 v)) (some g) := by
  subst hv
  have h1 := ((hblk.set_ 2 (.int .i64 u)).drewN n).set_ 1 (.int .i64 ((i : Int) + 1))
  simp only [List.setIfInBounds_toArray, List.set_cons_zero, List.set_cons_succ] at h1
  have h2 : Bytes (((w.setCell ⟨g, 2, none⟩ (.int .i64 u)).drewN n).setCell ⟨g, 1, none⟩ (.int .i64 ((i : Int) + 1))) B a len := hby.keep fun p hp => keep2 p hp hg (.int .i64 u) (.int .i64 ((i : Int) + 1)) n
  have h3 : w.grownBy (((w.setCell ⟨g, 2, none⟩ (.int .i64 u)).drewN n).setCell ⟨g, 1, none⟩ (.int .i64 ((i : Int) + 1))) (some g) :=
    only_setCell (only_drewN (only_setCell (only_refl w (some g)) (p := ⟨g, 2, none⟩) (.inl rfl) (.int .i64 u)) n) (p := ⟨g, 1, none⟩) (.inl rfl) (.int .i64 ((i : Int) + 1))
  exact ⟨⟨a, len, cap, i + 1, u, h1, hg, hlt, h2⟩, h3⟩
theorem end2 {B g : Nat} {w : World} {a : Option Addr} {len cap i : Nat} {h : Int} (hblk : Blk w g 203 #[.slice a len cap, .int .i64 i, .int .i64 h]) (hg : B ≤ g) (hi : i ≤ len) (hby : Bytes w B a len) (u : Int) (n m : Nat) :
    Cur B g (((w.setCell ⟨g, 2, none⟩ (.int .i64 u)).drewN n).drewN m) ∧ w.grownBy (((w.setCell ⟨g, 2, none⟩ (.int .i64 u)).drewN n).drewN m) (some g) := by
  have h1 := ((hblk.set_ 2 (.int .i64 u)).drewN n).drewN m
  simp only [List.setIfInBounds_toArray, List.set_cons_zero, List.set_cons_succ] at h1
  exact ⟨⟨a, len, cap, i, u, h1, hg, hi, hby.keep fun p hp => World.cell?_setCell_other _ _ _ _ (fun e => by subst e; simp at hp; omega)⟩,
      only_drewN (only_drewN (only_setCell (only_refl w _) (.inl rfl) _) _) _⟩
set_option maxHeartbeats 1000000 in
theorem byte (B g : Nat) (w : World) (hcur : Cur B g w) :
    Calls Try.prog 180 #[.pointer (some ⟨g, 0, none⟩)] w (Drawn B g w fun x => 0 ≤ x ∧ x ≤ 255) := by
  obtain ⟨a, len, cap, i, h, hblk, hg, hi, hby⟩ := hcur
  have c0 : w.cell? ⟨g, 0, none⟩ = some (.slice a len cap) := hblk.cell 0
  have c1 : w.cell? ⟨g, 1, none⟩ = some (.int .i64 i) := hblk.cell 1
  have c2 : w.cell? ⟨g, 2, none⟩ = some (.int .i64 h) := hblk.cell 2
  have f1 := hblk.frozen 1
  have f2 := hblk.frozen 2
  have hm := hby.1
  unfold maxLen at hm
  by_cases hlt : i < len
  · obtain ⟨ad, x, rfl, had, hcx, hx0, hx1⟩ := hby.2 i hlt
    have hcx2 : ∀ v, (w.setCell ⟨g, 2, none⟩ v).cell? (ad.add i) = some (.int .u8 x) := fun v => by
      rw [World.cell?_setCell_other _ _ _ _ (fun e => by have := congrArg Addr.block e; rw [block_of_add] at this; simp at this; omega)]; exact hcx
    go_enter Try.func180, Try.ntmps180
    go_wp2
    go_quiet (fail)
    go_wp2
    go_quiet (fail)
    go_wp2
    go_quiet (fail)
    go_wp2
    go_ret
    generalize wrap64 (wrap64 (h * 6364136223846793005) + 1442695040888963407) = h'
    have E := fun n => end1 hblk hg hlt hby h' (↑i + 1) rfl n
    exact ⟨_, and255 _, rfl, (E _).1, (E _).2⟩
  · go_enter Try.func180, Try.ntmps180
    go_wp2
    go_quiet (fail)
    go_wp2
    go_quiet (fail)
    go_wp2
    go_ret
    generalize wrap64 (wrap64 (h * 6364136223846793005) + 1442695040888963407) = h'
    have E := fun n m => end2 hblk hg hi hby h' n m
    exact ⟨_, and255 _, rfl, (E _ _).1, (E _ _).2⟩
/-- the cursor's state beside a world W0 in which the drawing began -/
def St (B g : Nat) (W0 w : World) : Prop := Cur B g w ∧ W0.grownBy w (some g)
theorem St.alloc {B g : Nat} {W0 w : World} (h : St B g W0 w) (o : Obj) : St B g W0 (w.alloc o) := ⟨h.1.alloc o, only_alloc h.2 o⟩
theorem St.drew {B g : Nat} {W0 w : World} (h : St B g W0 w) : St B g W0 w.drew := ⟨h.1, only_drew h.2⟩
theorem St.below {B g : Nat} {W0 w w' : World} (h : St B g W0 w) (hb : Below w.heap.size w w') : St B g W0 w' := ⟨h.1.below hb, by
  have h2 := h.2
  exact ⟨hb.os.trans h2.os, hb.tape.trans h2.tape, hb.output.trans h2.output, Nat.le_trans h2.size hb.size, fun i hi hne => (hb.block i (Nat.lt_of_lt_of_le hi h2.size)).trans (h2.block i hi hne)⟩⟩
def Got (B g : Nat) (W0 : World) (P : Int → Prop) (e : Ending) (w' : World) : Prop := ∃ x : Int, P x ∧ e = .returned (.int .i64 x) ∧ St B g W0 w'

theorem byte_s (B g : Nat) (W0 w : World) (h : St B g W0 w) :
    Calls Try.prog 180 #[.pointer (some ⟨g, 0, none⟩)] w (Got B g W0 fun x => 0 ≤ x ∧ x ≤ 255) :=
  (byte B g w h.1).mono fun _ _ ⟨x, hx, he, hc, ho⟩ => ⟨x, hx, he, hc, only_trans h.2 ho⟩

set_option maxHeartbeats 1000000 in
theorem below_s (n : Int) (B g : Nat) (W0 w : World) (h0 : 0 < n) (h1 : n ≤ 9223372036854775807) (h : St B g W0 w) :
    Calls Try.prog 111 #[.pointer (some ⟨g, 0, none⟩), .int .i64 n] w (Got B g W0 fun x => 0 ≤ x ∧ x < n) := by
  by_cases hn : n ≤ 256
  · go_enter Try.func111, Try.ntmps111
    go_wp2_with (go_at_call 180; refine (byte_s B g W0 _ h).mono ?_; rintro e w1 ⟨x, ⟨hx0, hx1⟩, rfl, hs⟩)
    go_ret
    exact ⟨_, ⟨Int.emod_nonneg _ (by omega), Int.emod_lt_of_pos _ h0⟩, rfl, hs⟩
  · go_enter Try.func111, Try.ntmps111
    go_wp2_with fail
    refine (byte_s B g W0 _ h).mono ?_
    rintro e w1 ⟨x, ⟨hx0, hx1⟩, rfl, hs1⟩
    go_wp2_with fail
    refine (byte_s B g W0 _ hs1).mono ?_
    rintro e w2 ⟨y, ⟨hy0, hy1⟩, rfl, hs2⟩
    go_wp2_with fail
    refine (byte_s B g W0 _ hs2).mono ?_
    rintro e w3 ⟨z, ⟨hz0, hz1⟩, rfl, hs3⟩
    go_wp2_with fail
    refine (byte_s B g W0 _ hs3).mono ?_
    rintro e w4 ⟨v, ⟨hv0, hv1⟩, rfl, hs4⟩
    go_wp2_with fail
    go_ret
    exact ⟨_, ⟨Int.emod_nonneg _ (by omega), Int.emod_lt_of_pos _ h0⟩, rfl, hs4⟩

/-- l01Once: some bool -/
def GotB (B g : Nat) (W0 : World) (e : Ending) (w' : World) : Prop := ∃ b : Bool, e = .returned (.bool b) ∧ St B g W0 w'
theorem new_s (a : Option Addr) (len cap : Nat) (w : World) (hb : Bytes w w.heap.size a len) :
    Calls Try.prog 109 #[.slice a len cap] w fun e w' => e = .returned (.pointer (some ⟨w.heap.size, 0, none⟩)) ∧ Cur w.heap.size w.heap.size w' ∧ Below w.heap.size w w' := by
  have hm := hb.1
  unfold maxLen at hm
  go_enter Try.func109, Try.ntmps109
  go_wp2
  go_loop [3, 4] (fun t i => ∃ (k : Nat) (h : Int), k ≤ len ∧ i = .int .i64 k ∧ t = .int .i64 h) (fun _ i => len - (intOf i).toNat)
  case atStart => exact ⟨0, _, Nat.zero_le _, rfl, rfl⟩
  case round =>
    obtain ⟨k, h, hk, rfl, rfl⟩ := hrel
    by_cases hlt : k < len
    · by_cases h4 : (k : Int) < 4000
      · obtain ⟨ad, x, rfl, hx, hc, hx0, hx1⟩ := hb.2 k hlt
        go_wp2
        go_round
        case rel => exact ⟨k + 1, _, by omega, by go_num, rfl⟩
        case measure => simp [intOf]; omega
      · go_wp2
        go_ret
        exact ⟨rfl, ⟨a, len, cap, 0, h, Blk.new _ _ _, Nat.le_refl _, Nat.zero_le _, hb.keep fun p hp => World.cell?_alloc_lt _ _ p hp⟩, (Below.refl _ _).alloc (Nat.le_refl _) _⟩
    · go_wp2
      go_ret
      exact ⟨rfl, ⟨a, len, cap, 0, h, Blk.new _ _ _, Nat.le_refl _, Nat.zero_le _, hb.keep fun p hp => World.cell?_alloc_lt _ _ p hp⟩, (Below.refl _ _).alloc (Nat.le_refl _) _⟩

end Go.Proofs.Ytmkfnhgaiheckaa
