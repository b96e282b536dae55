/- Slices of slices of numbers: the laws' helpers by contract. -/
import Derived.Test.YtmkfnhgaiheckaaOwnI
import Derived.Test.YtmkfnhgaiheckaaSum
import Derived.Test.YtmkfnhgaiheckaaQuiet
import Derived.Deep.Matrix
namespace Go.Proofs.Ytmkfnhgaiheckaa
open Go.ChangeShapes Go.WideShapes Go.ChangeAt Go.RowKit
set_option linter.unusedVariables false
set_option linter.unusedSimpArgs false
set_option maxHeartbeats 1000000
set_option maxRecDepth 4000
abbrev IntSR := List Int
/-- a slice of slices that is read -/
def ReadsIntS (w : World) (A : Option Addr) (n : Nat) (xs : List IntSR) : Prop :=
  xs.length = n ∧ ∀ k, k < n → ∃ ad, A = some ad ∧ ∃ (B : Option Addr) (c : Nat), w.cell? (ad.add k) = some (.slice B (xs.getD k []).length c) ∧ (xs.getD k []).length ≤ c ∧ c ≤ maxLen ∧ ReadsI w B (xs.getD k []).length (xs.getD k [])
theorem ReadsIntS.in_ {w w' : World} {A : Option Addr} {n : Nat} {xs : List IntSR} (h : ReadsIntS w A n xs) (hi : In w.heap.size w w') : ReadsIntS w' A n xs := by
  refine ⟨h.1, fun k hk => ?_⟩
  obtain ⟨ad, hA, B, c, h0, h1, h2, h3⟩ := h.2 k hk
  exact ⟨ad, hA, B, c, cell_in h0 hi, h1, h2, h3.below hi.below (Nat.le_refl _)⟩
theorem ReadsIntS.below {w w' : World} {A : Option Addr} {n : Nat} {xs : List IntSR} (h : ReadsIntS w A n xs) (hb : Below w.heap.size w w') : ReadsIntS w' A n xs := h.in_ ⟨hb, hb.size⟩
theorem ReadsIntS.step {w w' : World} {A : Option Addr} {n : Nat} {xs : List IntSR} (h : ReadsIntS w A n xs) (hb : Below w.heap.size w w') : ReadsIntS w' A n xs := h.below hb
theorem ReadsIntS.alloc {w : World} {A : Option Addr} {n : Nat} {xs : List IntSR} (h : ReadsIntS w A n xs) (o : Obj) : ReadsIntS (w.alloc o) A n xs := h.in_ ((In.refl w).alloc o)
theorem ReadsIntS.drew {w : World} {A : Option Addr} {n : Nat} {xs : List IntSR} (h : ReadsIntS w A n xs) : ReadsIntS w.drew A n xs := h.in_ (In.refl w).drew
/-- block g holds slices, each in a block of its own behind g -/
def OwnIntS (w : World) (g n : Nat) (xs : List IntSR) : Prop :=
  ∃ (cur : Array Value) (G : Nat → Nat), Blk w g 43 cur ∧ cur.size = n ∧ xs.length = n ∧ (∀ t, t < n → g < G t ∧ (xs.getD t []).length ≤ 10000000 ∧ cur[t]? = some (.slice (some ⟨G t, 0, none⟩) (xs.getD t []).length (xs.getD t []).length) ∧ OwnInt w (G t) (xs.getD t []).length (xs.getD t [])) ∧ ∀ t u, t < u → u < n → G t < G u
theorem OwnIntS.reads {w : World} {g n : Nat} {xs : List IntSR} (h : OwnIntS w g n xs) : ReadsIntS w (some ⟨g, 0, none⟩) n xs := by
  obtain ⟨cur, G, hb, hs, hl, hc, hG⟩ := h
  refine ⟨hl, fun k hk => ⟨_, rfl, some ⟨G k, 0, none⟩, (xs.getD k []).length, ?_, Nat.le_refl _, ?_, (hc k hk).2.2.2.reads⟩⟩
  · rw [Addr.add_lit, Nat.zero_add, hb.cell]
    exact (hc k hk).2.2.1
  · have := (hc k hk).2.1
    unfold maxLen; omega
theorem OwnIntS.below {w w' : World} {g n B : Nat} {xs : List IntSR} (h : OwnIntS w g n xs) (hb : Below w.heap.size w w') : OwnIntS w' g n xs := by
  obtain ⟨cur, G, hk, hs, hl, hc, hG⟩ := h
  exact ⟨cur, G, hk.step hb, hs, hl, fun t ht => ⟨(hc t ht).1, (hc t ht).2.1, (hc t ht).2.2.1, (hc t ht).2.2.2.step hb⟩, hG⟩
def totTo (xs : List IntSR) (k : Nat) : Int := sumTo (fun i => ((xs.getD i []).length : Int)) k
def totSS (n : Nat) (xs : List IntSR) : Int := (n : Int) + totTo xs n
theorem totTo_nn (xs : List IntSR) (a b : Nat) (h : a ≤ b) : 0 ≤ totTo xs a ∧ totTo xs a ≤ totTo xs b := by
  refine ⟨?_, sumTo_mono _ a b h fun i hi => by omega⟩
  have := sumTo_mono (fun i => ((xs.getD i []).length : Int)) 0 a (Nat.zero_le _) fun i hi => by omega
  simpa [sumTo, totTo] using this
theorem totTo_at (xs : List IntSR) (n i : Nat) (hi : i < n) : ((xs.getD i []).length : Int) ≤ totTo xs n := by
  have h1 := totTo_nn xs i i (Nat.le_refl _)
  have h2 := totTo_nn xs (i + 1) n (by omega)
  have h3 : totTo xs (i + 1) = totTo xs i + ((xs.getD i []).length : Int) := rfl
  omega
theorem szI_c (A : Option Addr) (n c : Nat) (left : Int) (w : World) (hn : n ≤ maxLen) (h1 : 0 ≤ left) (h2 : left ≤ 2000000) : Calls Try.prog 145 #[.slice A n c, .int .i64 left] w (Same (.int .i64 (if left < n then -1 else left - n)) w) := by
  unfold maxLen at hn
  by_cases h : left < n
  · rw [if_pos h]
    have h' : left - n < 0 := by omega
    go_enter Try.func145, Try.ntmps145
    go_wp2
    all_goals first | (exfalso; omega) | skip
    go_ret
    exact ⟨rfl, rfl⟩
  · rw [if_neg h]
    have h' : 0 ≤ left - n := by omega
    go_enter Try.func145, Try.ntmps145
    go_wp2
    all_goals first | (exfalso; omega) | skip
    go_ret
    exact ⟨rfl, rfl⟩
def szV (left t : Int) : Int := if left < t then -1 else left - t
theorem eqIntSS_c (A B : Option Addr) (n c d : Nat) (xs : List IntSR) (w : World) (hn : n ≤ maxLen) (hx : ReadsIntS w A n xs) (hy : ReadsIntS w B n xs) :
    Calls Try.prog 19 #[.slice A n c, .slice B n d] w (Val (.bool true) w) := by
  unfold maxLen at hn
  go_enter Try.func19, Try.ntmps19
  go_wp2
  go_loopw [5] (fun i wr => ∃ (k : Nat), k ≤ n ∧ i = .int .i64 k ∧ In w.heap.size w wr) (fun i _ => n - (intOf i).toNat)
  case atStart => exact ⟨0, Nat.zero_le _, rfl, by (repeat (first | exact In.refl _ | assumption | apply In.alloc | apply In.drewN | apply In.drew | (refine In.step ?_ (by assumption))))⟩
  case round =>
    obtain ⟨k, hk, rfl, hi⟩ := hrel
    by_cases hlt : k < n
    · obtain ⟨a, rfl, A', c', ha, hl, hm, hra⟩ := hx.2 k hlt
      obtain ⟨b, rfl, B', d', hb, hl2, hm2, hrb⟩ := hy.2 k hlt
      generalize xs.getD k [] = x at *
      have hxm : x.length ≤ maxLen := Nat.le_trans hl hm
      have HC := Lib.hid (fun W (h : In w.heap.size w W) => eqIntS_c A' B' x.length c' d' x W hxm (hra.below h.below (Nat.le_refl _)) (hrb.below h.below (Nat.le_refl _)))
      have ca := cell_in ha hi
      have cb := cell_in hb hi
      clear hra hrb hm hm2 hl hl2
      go_wp2
      refine wp_region_S (C := (fun w' => In w.heap.size w w' ∧ w'.cell? (a.add k) = some (.slice A' x.length c') ∧ w'.cell? (b.add k) = some (.slice B' x.length d'))) (by kernel_rfl) (by kernel_rfl) ?_ ?_
      · exact ⟨by (repeat (first | exact In.refl _ | assumption | apply In.alloc | apply In.drewN | apply In.drew | (refine In.step ?_ (by assumption)))), ca, cb⟩
      repeat (first | go_big_quiet_skip | (go_big_quiet_want; first | (refine quiet_ex ?_; apply Exists.intro; refine ⟨fun W hW => ?_, ?_⟩; (· (obtain ⟨i1, f0, f1⟩ := hW; go_simp; (first | done | with_reducible rfl | rfl))); simp only [Act.put, List.setIfInBounds_toArray, List.set_cons_zero, List.set_cons_succ]; go_big_quiet_on) | (refine quiet_ex ?_; apply Exists.intro; refine ⟨fun W hW => ?_, ?_⟩; (· (go_simp; first | (go_at_call 61; (with_reducible refine (HC.out _ hW.1).mono ?_); rintro e w2 ⟨rfl, hb2⟩; exact ⟨rfl, hW.1.step hb2, cell_in ha (hW.1.step hb2), cell_in hb (hW.1.step hb2)⟩))); simp only [Act.put, List.setIfInBounds_toArray, List.set_cons_zero, List.set_cons_succ]; go_big_quiet_on)))
      refine wpQuiet_nil ?_
      rintro w' ⟨i1, f0, f1⟩
      go_wp2
      go_roundw
      case rel => exact ⟨k + 1, by omega, by go_num, by (repeat (first | exact In.refl _ | assumption | apply In.alloc | apply In.drewN | apply In.drew | (refine In.step ?_ (by assumption))))⟩
      case measure => simp [intOf]; omega
    · obtain rfl : k = n := by omega
      go_wp2
      go_ret
      exact Val.mk' rfl (by (repeat (first | exact In.refl _ | assumption | apply In.alloc | apply In.drewN | apply In.drew | (refine In.step ?_ (by assumption)))))
theorem infoSS : (Try.prog.info? 43).map (fun i => (i.zero, i.size)) = some (some (.slice none 0 0), 1) := by kernel_rfl
theorem bytesSS : (Try.prog.info? 43).map (fun i => decide (i.bytes ≤ 64)) = some true := by kernel_rfl
/-- what a call answers that makes a row of rows of its own -/
def RowIntS (xs : List IntSR) (w : World) (e : Ending) (w' : World) : Prop :=
  ∃ g, e = .returned (.slice (some ⟨g, 0, none⟩) xs.length xs.length) ∧ OwnIntS w' g xs.length xs ∧ w.heap.size ≤ g ∧ Below w.heap.size w w'
theorem openIntS {H : Type} {enc : TypeId × Value → H} {w : World} {base : Nat} {held : Bool} {fuel : Nat} {A : Option Addr} {n c : Nat} {x : DataW H × List MemPlace}
    (h : DataW.trod enc Try.prog w base (fun _ => true) held fuel 24 (Value.cells (.slice A n c)).toList = some x) : ∃ zs, n ≤ maxLen ∧ ReadsIntS w A n zs := by
  rcases Deep.open_int_rows Try.underlying24 Try.underlying43 Try.underlying3 (by kernel_rfl) (by kernel_rfl) h with ⟨hcs, _⟩ | ⟨a, len, cap, A', L, C, Z, hcs, hb, hl, hm, hxx, hc⟩
  · simp [Value.cells] at hcs
    obtain ⟨rfl, rfl, rfl⟩ := hcs
    exact ⟨[], Nat.zero_le _, rfl, fun k hk => absurd hk (Nat.not_lt_zero _)⟩
  · simp [Value.cells] at hcs
    obtain ⟨rfl, rfl, rfl⟩ := hcs
    refine ⟨(List.range n).map fun r => (Z r).take (L r), by omega, by simp, fun k hk => ⟨a, rfl, A' k, C k, ?_⟩⟩
    obtain ⟨c1, c2, c3, c4, c5, c6, c7⟩ := hc k (by omega)
    have e : ((List.range n).map fun r => (Z r).take (L r)).getD k [] = (Z k).take (L k) := by simp [List.getD_eq_getElem?_getD, hk]
    have el : ((Z k).take (L k)).length = L k := by rw [List.length_take]; omega
    rw [e, el]
    refine ⟨c1, c2, c3, el, fun i hi => ?_⟩
    cases hA : A' k with
    | none => have := c6 hA; omega
    | some a' =>
      refine ⟨a', rfl, ?_⟩
      rw [(c7 a' hA).2 i (by omega)]
      simp [List.getD_eq_getElem?_getD, hi]
end Go.Proofs.Ytmkfnhgaiheckaa
