/- The laws' helpers on slices of strings: their contracts. -/
import Derived.Test.YtbnmbnkgpggnmaaRows
import Derived.Test.YtbnmbnkgpggnmaaHexDef
import Derived.Test.YtbnmbnkgpggnmaaDig
import Derived.Deep.QuietTactic
import Derived.BigQuiet
import Derived.Deep.RegionHeld3
namespace Go.Proofs.Ytbnmbnkgpggnmaa
open Go.ChangeShapes Go.WideShapes Go.ChangeAt Go.RowKit
set_option linter.unusedVariables false

def mt (k : Nat) : ByteArray := ⟨(109 :: Lib.decDigits k).toArray⟩
def StrB (s : ByteArray) (w : World) (e : Ending) (w' : World) : Prop := e = .returned (.string s) ∧ Below w.heap.size w w'
theorem u8_dig (m : Nat) : IntKind.u8.wrap (48 + (m : Int) % 10) = ((UInt8.ofNat (48 + m % 10)).toNat : Int) := by
  rw [IntWalk.u8_in _ (by omega)]
  simp [UInt8.toNat_ofNat']; omega

set_option maxHeartbeats 1000000 in
theorem markText_c (k : Nat) (w : World) (h0 : 0 < k) (h1 : (k : Int) ≤ 2000000) :
    Calls Try.prog 29 #[.int .i64 k] w (StrB (mt k) w) := by
  have hlen := decDigits_le k (by omega)
  obtain ⟨R, hR⟩ : ∃ R, R = mt k := ⟨_, rfl⟩
  rw [← hR]
  have HR := Lib.hid hR
  clear hR
  go_enter Try.func29, Try.ntmps29
  go_wp2
  go_loopw [0, 3] (fun n s wr => ∃ (m : Nat) (t : List UInt8), m ≤ k ∧ n = .int .i64 m ∧ s = .string ⟨t.toArray⟩ ∧ dpre m ++ t = Lib.decDigits k ∧ Below w.heap.size w wr) (fun n _ _ => (intOf n).toNat)
  case atStart => exact ⟨k, [], Nat.le_refl _, rfl, rfl, by unfold dpre; rw [if_neg (by omega)]; simp, Below.refl _ _⟩
  case round =>
    obtain ⟨m, t, hm, rfl, rfl, ht, hb⟩ := hrel
    have htl : t.length ≤ 100 := by have := congrArg List.length ht; simp at this; omega
    have HT := Lib.hid ht
    clear ht
    by_cases hz : m = 0
    · subst hz
      have hadd := fun W => add_cons (P := Try.prog) 109 t htl W
      go_wp2
      go_ret
      exact ⟨by rw [HR.out]; unfold mt; rw [← HT.out]; rfl, hb⟩
    · have hpos : 0 < m := by omega
      have hw := u8_dig m
      generalize hbb : UInt8.ofNat (48 + m % 10) = b at hw
      have HBB := Lib.hid hbb
      clear hbb
      have hcv := fun W => conv_one (P := Try.prog) b 22 9 5 Try.underlying22 Try.underlying5 Try.underlying9 W
      have hadd := fun W => add_cons (P := Try.prog) b t htl W
      have hB := hb.size
      go_wp2_with fail
      have HC := Lib.hid hcv
      clear hcv hadd hw
      go_roundw
      case rel => exact ⟨m / 10, b :: t, by omega, by go_num, rfl, by rw [← HBB.out]; exact (dpre_step m hz t).trans HT.out, hb.alloc hB _⟩
      case measure => simp [intOf]; omega

/-- a row of strings that is read -/
def ReadsS (w : World) (A : Option Addr) (n : Nat) (xs : List ByteArray) : Prop :=
  xs.length = n ∧ ∀ k, k < n → ∃ ad, A = some ad ∧ w.cell? (ad.add k) = some (.string (xs.getD k ByteArray.empty))
def Still (w : World) (v : Value) (e : Ending) (w' : World) : Prop := e = .returned v ∧ Below w.heap.size w w'

set_option maxHeartbeats 1000000 in
theorem eqS_c (A B : Option Addr) (n c d : Nat) (xs : List ByteArray) (w : World) (hn : n ≤ maxLen) (hx : ReadsS w A n xs) (hy : ReadsS w B n xs) :
    Calls Try.prog 17 #[.slice A n c, .slice B n d] w (Still w (.bool true)) := by
  unfold maxLen at hn
  go_enter Try.func17, Try.ntmps17
  go_wp2
  go_loopw [5] (fun i wr => ∃ (k q : Nat), k ≤ n ∧ i = .int .i64 k ∧ wr = w.drewN q) (fun i _ => n - (intOf i).toNat)
  case atStart => exact ⟨0, 0, Nat.zero_le _, rfl, rfl⟩
  case round =>
    obtain ⟨k, q, hk, rfl, rfl⟩ := hrel
    by_cases hlt : k < n
    · obtain ⟨a, rfl, ha⟩ := hx.2 k hlt
      obtain ⟨b, rfl, hb⟩ := hy.2 k hlt
      generalize xs.getD k ByteArray.empty = x at ha hb
      go_wp2
      go_quiet (fail)
      go_wp2
      go_roundw
      case rel => exact ⟨k + 1, _, by omega, by go_num, rfl⟩
      case measure => simp [intOf]; omega
    · go_wp2
      go_ret
      exact ⟨rfl, below_drewN (Below.refl _ _) _⟩

def sv (xs : List ByteArray) : List Value := xs.map Value.string
theorem sv_set (xs : List ByteArray) (k : Nat) (b : ByteArray) : sv (xs.set k b) = (sv xs).set k (.string b) := by simp [sv, List.map_set]
theorem sv_at (xs : List ByteArray) (k : Nat) (h : k < xs.length) : (sv xs)[k]? = some (.string (xs.getD k ByteArray.empty)) := by simp [sv, h]
theorem reads_own {w : World} {base n c : Nat} {A : Option Addr} {xs : List ByteArray} (h : w.ownsRow base 9 1 (.slice A n c) n (sv xs)) : ReadsS w A n xs := by
  have hl : xs.length = n := by have := h.1; simp [sv] at this; exact this
  refine ⟨hl, fun k hk => ?_⟩
  obtain ⟨g, cap, hv, _, _⟩ := h.form (by omega)
  injection hv with h1 h2 h3
  subst h1 h3
  exact ⟨_, rfl, by rw [Addr.add_lit, Nat.zero_add, h.cellAt k (by omega)]; exact sv_at xs k (by omega)⟩

/-- the slice after the marks k, k + 1, .. -/
def marks (k n : Nat) : List ByteArray := (List.range n).map fun i => mt (k + i)
theorem marks_len (k n : Nat) : (marks k n).length = n := by simp [marks]
theorem marks_at (k n i : Nat) (h : i < n) : (marks k n).getD i ByteArray.empty = mt (k + i) := by simp [marks, h]

/-- what marking leaves -/
def Marked (base k n c : Nat) (A : Option Addr) (w : World) (e : Ending) (w' : World) : Prop :=
  e = .returned (.int .i64 ((k + n : Nat) : Int)) ∧ w'.ownsRow base 9 1 (.slice A n c) n (sv (marks k n)) ∧ Below base w w'

set_option maxHeartbeats 1000000 in
theorem markS_c (A : Option Addr) (n c k base : Nat) (xs : List ByteArray) (w : World) (hn : (n : Int) ≤ 1000000) (hk0 : 0 < k) (hk : (k : Int) ≤ 1000000) (hB : base ≤ w.heap.size) (hown : w.ownsRow base 9 1 (.slice A n c) n (sv xs)) :
    Calls Try.prog 18 #[.slice A n c, .int .i64 k] w (Marked base k n c A w) := by
  have hxl : xs.length = n := by have := hown.1; simp [sv] at this; exact this
  have HXL := Lib.hid hxl
  clear hxl
  go_enter Try.func18, Try.ntmps18
  go_wp2
  go_loopw [1, 5] (fun m i wr => ∃ (j : Nat) (ys : List ByteArray), j ≤ n ∧ i = .int .i64 j ∧ m = .int .i64 ((k + j : Nat) : Int) ∧ ys.length = n ∧ wr.ownsRow base 9 1 (.slice A n c) n (sv ys) ∧ (∀ t, t < j → ys.getD t ByteArray.empty = mt (k + t)) ∧ Below base w wr) (fun _ i _ => n - (intOf i).toNat)
  case atStart => exact ⟨0, xs, Nat.zero_le _, rfl, rfl, HXL.out, hown, fun t ht => absurd ht (Nat.not_lt_zero _), Below.refl _ _⟩
  case round =>
    clear hown
    obtain ⟨j, ys, hj, rfl, rfl, hyl, hown, hys, hb⟩ := hrel
    have HYL := Lib.hid hyl
    have HYS := Lib.hid hys
    clear hyl hys
    by_cases hlt : j < n
    · obtain ⟨g, cap, hv, hg, hglt⟩ := hown.form (by omega)
      injection hv with h1 h2 h3
      subst h1 h3
      have hB2 : base ≤ wr.heap.size := Nat.le_trans hB hb.size
      go_wp2_with fail
      refine (markText_c (k + j) _ (by omega) (by omega)).mono ?_
      rintro e w1 ⟨rfl, hb1⟩
      have hown1 := own_below hown hb1 (Nat.le_refl _)
      have hc : w1.cell? ⟨g, j, none⟩ = some (.string (ys.getD j ByteArray.empty)) := by rw [hown1.cellAt j (by omega)]; exact sv_at ys j (by have := HYL.out; omega)
      have hf := hown1.frozenAt j
      have hst := (hown1.stored j (.string (mt (k + j)))).1
      rw [← sv_set] at hst
      have hbb : Below base w (w1.setCell ⟨g, j, none⟩ (.string (mt (k + j)))) := (hb.trans (hb1.mono hB2)).setCell hg _
      generalize ys.getD j ByteArray.empty = y0 at hc
      clear hown hown1
      go_wp2_with fail
      have HC := Lib.hid hc
      clear hc hf
      go_roundw
      case rel => exact ⟨j + 1, ys.set j (mt (k + j)), by omega, by go_num, by go_num, by have := HYL.out; simp; omega, hst, fun t ht => by
          by_cases e : t = j
          · subst e; have := HYL.out; simp [show t < ys.length from by omega]
          · have := HYS.out t (by omega); rw [← this]; simp [show ¬ j = t from fun h => e h.symm], hbb⟩
      case measure => simp [intOf]; omega
    · obtain rfl : j = n := by omega
      go_wp2
      go_ret
      refine ⟨ret_int rfl, ?_, hb⟩
      have e : ys = marks k j := by
        apply List.ext_getElem
        · rw [HYL.out, marks_len]
        · intro i h1 h2
          have := HYS.out i (by have := HYL.out; omega)
          rw [List.getD_eq_getElem?_getD, List.getElem?_eq_getElem h1] at this
          have h3 := marks_at k j i (by have := HYL.out; omega)
          rw [List.getD_eq_getElem?_getD, List.getElem?_eq_getElem h2] at h3
          exact this.trans h3.symm
      rw [← e]; exact hown

set_option maxHeartbeats 1000000 in
theorem heldS_c (A : Option Addr) (n c k base : Nat) (w : World) (hn : (n : Int) ≤ 1000000) (hk0 : 0 < k) (hk : (k : Int) ≤ 1000000) (hown : w.ownsRow base 9 1 (.slice A n c) n (sv (marks k n))) :
    Calls Try.prog 19 #[.slice A n c, .int .i64 k] w (Still w (.int .i64 ((k + n : Nat) : Int))) := by
  go_enter Try.func19, Try.ntmps19
  go_wp2
  go_loopw [1, 5] (fun m i wr => ∃ (j : Nat), j ≤ n ∧ i = .int .i64 j ∧ m = .int .i64 ((k + j : Nat) : Int) ∧ Below w.heap.size w wr) (fun _ i _ => n - (intOf i).toNat)
  case atStart => exact ⟨0, Nat.zero_le _, rfl, rfl, Below.refl _ _⟩
  case round =>
    obtain ⟨j, hj, rfl, rfl, hb⟩ := hrel
    by_cases hlt : j < n
    · obtain ⟨g, cap, hv, hg, hglt⟩ := hown.form (by omega)
      injection hv with h1 h2 h3
      subst h1 h3
      have hc : w.cell? ⟨g, j, none⟩ = some (.string (mt (k + j))) := by rw [hown.cellAt j (by omega), sv_at _ j (by rw [marks_len]; omega), marks_at k n j hlt]
      have hcr : wr.cell? ⟨g, j, none⟩ = some (.string (mt (k + j))) := (hb.cell hglt).trans hc
      have hsz := hb.size
      have hgr : g < wr.heap.size := by omega
      have HC := Lib.hid hc
      clear hc
      go_wp2_with fail
      go_region_held3 (fun w' => w'.cell? ⟨g, j, none⟩ = some (.string (mt (k + j))) ∧ Below wr.heap.size wr w')
        (first
          | exact ⟨hcr, (Below.refl _ _).drew⟩
          | assumption
          | exact ⟨(hb1.cell (p := ⟨g, j, none⟩) hgr).trans hcr, ((Below.refl wr.heap.size wr).drew).trans hb1⟩)
        (first | (go_at_call 29; refine (markText_c (k + j) _ ?_ ?_).mono ?_; (omega); (omega); rintro e w1 ⟨rfl, hb1⟩))
      obtain ⟨_, hb2⟩ := (‹w1.cell? _ = _ ∧ Below _ _ w1›)
      have hb3 := hb.trans (hb2.mono hsz)
      clear hb2 hcr hb1
      go_wp2
      go_roundw
      case rel => exact ⟨j + 1, by omega, by go_num, by go_num, hb3⟩
      case measure => simp [intOf]; omega
    · obtain rfl : j = n := by omega
      go_wp2
      go_ret
      exact ⟨ret_int rfl, hb⟩
end Go.Proofs.Ytbnmbnkgpggnmaa
