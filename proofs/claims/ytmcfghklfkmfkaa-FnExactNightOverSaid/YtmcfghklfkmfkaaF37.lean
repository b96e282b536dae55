/- Chapter 37: counting events. -/
import Derived.Test.YtmcfghklfkmfkaaC37
import Derived.Test.YtmcfghklfkmfkaaOCEvent
import Derived.Test.YtmcfghklfkmfkaaFirst
namespace Go.Proofs.Ytmcfghklfkmfkaa
open Go.ChangeShapes Go.WideShapes Go.ChangeAt Go.RowKit
set_option linter.unusedVariables false
set_option linter.unusedSimpArgs false
set_option maxHeartbeats 2000000

structure BkS where
  r0 : Int
  r1 : Int
  r2 : Int
  bk : Int
  sd : Int
  th : Int
def evAt (s : BkS) (e : EventR) : EvR := evR s.r0 s.r1 s.r2 e.f0 e.f1
def stNext (s : BkS) (r : EvR) : BkS := ⟨r.f0, r.f1, r.f2, s.bk + r.m, s.sd + r.s, s.th + r.t⟩
def stTo (xs : List EventR) : Nat → BkS
  | 0 => ⟨0, 0, 0, 0, 0, 0⟩
  | k + 1 => stNext (stTo xs k) (evAt (stTo xs k) (xs.getD k ⟨0, 0⟩))
def okK (xs : List EventR) (k : Nat) : Bool := (evAt (stTo xs k) (xs.getD k ⟨0, 0⟩)).ok
def cntB (xs : List EventR) (n : Nat) : Bool := allOk (okK xs) n
theorem stTo_congr {xs ys : List EventR} (n : Nat) (h : ∀ k, k < n → xs.getD k ⟨0, 0⟩ = ys.getD k ⟨0, 0⟩) : stTo xs n = stTo ys n := by
  induction n with
  | zero => rfl
  | succ n ih => rw [stTo, stTo, ih fun k hk => h k (by omega), h n (by omega)]
theorem okK_congr {xs ys : List EventR} (n k : Nat) (hk : k < n) (h : ∀ k, k < n → xs.getD k ⟨0, 0⟩ = ys.getD k ⟨0, 0⟩) : okK xs k = okK ys k := by
  unfold okK; rw [stTo_congr k fun j hj => h j (by omega), h k hk]
theorem cntB_congr {xs ys : List EventR} (n : Nat) (h : ∀ k, k < n → xs.getD k ⟨0, 0⟩ = ys.getD k ⟨0, 0⟩) (hx : cntB xs n = true) : cntB ys n = true :=
  allOk_t _ _ fun i hi => by rw [← okK_congr n i hi h]; exact allOk_at _ _ hx i hi
/-- what holds of the state while all events are possible -/
def StIn (s : BkS) (k : Nat) : Prop := rackB s.r0 s.r1 s.r2 = true ∧ 0 ≤ s.bk ∧ s.bk ≤ 1000 * k ∧ 0 ≤ s.sd ∧ s.sd ≤ 1000 * k ∧ 0 ≤ s.th ∧ s.th ≤ 10000 * k
theorem st_in (xs : List EventR) (n : Nat) (h : ∀ k, k < n → okK xs k = true) : StIn (stTo xs n) n := by
  induction n with
  | zero => exact ⟨rack_of (by simp [stTo]), by simp [stTo], by simp [stTo], by simp [stTo], by simp [stTo], by simp [stTo], by simp [stTo]⟩
  | succ n ih =>
    obtain ⟨h0, h1, h2, h3, h4, h5, h6⟩ := ih fun k hk => h k (by omega)
    obtain ⟨k0, k1, k2, k3, k4, k5, k6⟩ := ev_ok (h n (by omega))
    refine ⟨k0, ?_, ?_, ?_, ?_, ?_, ?_⟩ <;> simp only [stTo, stNext, evAt] <;> omega
theorem st_rack {s : BkS} {k : Nat} (h : StIn s k) : rackB s.r0 s.r1 s.r2 = true := h.1
/-- the cells of a book -/
abbrev bkC (A : Option Addr) (n c : Nat) (s : BkS) : Array Value := #[.slice A n c, .int .i64 s.r0, .int .i64 s.r1, .int .i64 s.r2, .int .i64 s.bk, .int .i64 s.sd, .int .i64 s.th]
def bkB (n : Nat) (xs : List EventR) (a b c d e f : Int) : Bool := decide (n ≤ 40) && (cntB xs n && decide ((stTo xs n).r0 = a ∧ (stTo xs n).r1 = b ∧ (stTo xs n).r2 = c ∧ (stTo xs n).bk = d ∧ (stTo xs n).sd = e ∧ (stTo xs n).th = f))
theorem bk_at {n : Nat} {xs : List EventR} {a b c d e f : Int} (h : bkB n xs a b c d e f = true) : n ≤ 40 ∧ cntB xs n = true ∧ stTo xs n = ⟨a, b, c, d, e, f⟩ := by
  simp only [bkB, Bool.and_eq_true, decide_eq_true_eq] at h
  obtain ⟨h1, h2, h3, h4, h5, h6, h7, h8⟩ := h
  refine ⟨h1, h2, ?_⟩
  generalize stTo xs n = s at *
  cases s
  simp_all
theorem cntB_0 (xs : List EventR) : cntB xs 0 = true := allOk_t _ _ fun i hi => absurd hi (Nat.not_lt_zero _)
end Go.Proofs.Ytmcfghklfkmfkaa
