/- Slices of Basket, a struct that holds a slice of ints: the laws' helpers by contract. -/
import Derived.Test.YtmkfnhgaiheckaaOwnI
import Derived.Test.YtmkfnhgaiheckaaOwnC
import Derived.Test.YtmkfnhgaiheckaaSS0
import Derived.Test.YtmkfnhgaiheckaaSum
import Derived.Test.YtmkfnhgaiheckaaQuiet
import Derived.Test.YtmkfnhgaiheckaaOpen
import Derived.Deep.Matrix
import Derived.ChangeSlices
namespace Go.Proofs.Ytmkfnhgaiheckaa
open Go.ChangeShapes Go.WideShapes Go.ChangeAt Go.RowKit
set_option linter.unusedVariables false
set_option linter.unusedSimpArgs false
set_option maxHeartbeats 1000000
set_option maxRecDepth 4000
structure BasketR where
  f0 : List Int

/-- a slice of Basket that is read -/
def ReadsBasket (w : World) (A : Option Addr) (n : Nat) (xs : List BasketR) : Prop :=
  xs.length = n ∧ ∀ k, k < n → ∃ ad, A = some ad ∧ ∃ (B : Option Addr) (c : Nat), (w.cell? (ad.add k) = some (.slice B (xs.getD k ⟨[]⟩).f0.length c)) ∧ (xs.getD k ⟨[]⟩).f0.length ≤ c ∧ c ≤ maxLen ∧ ReadsI w B (xs.getD k ⟨[]⟩).f0.length (xs.getD k ⟨[]⟩).f0
theorem ReadsBasket.in_ {w w' : World} {A : Option Addr} {n : Nat} {xs : List BasketR} (h : ReadsBasket w A n xs) (hi : In w.heap.size w w') : ReadsBasket w' A n xs := by
  refine ⟨h.1, fun k hk => ?_⟩
  obtain ⟨ad, hA, B, c, h0, g1, g2, g3⟩ := h.2 k hk
  exact ⟨ad, hA, B, c, cell_in h0 hi, g1, g2, g3.below hi.below (Nat.le_refl _)⟩
theorem ReadsBasket.below {w w' : World} {A : Option Addr} {n : Nat} {xs : List BasketR} (h : ReadsBasket w A n xs) (hb : Below w.heap.size w w') : ReadsBasket w' A n xs := h.in_ ⟨hb, hb.size⟩
theorem ReadsBasket.step {w w' : World} {A : Option Addr} {n : Nat} {xs : List BasketR} (h : ReadsBasket w A n xs) (hb : Below w.heap.size w w') : ReadsBasket w' A n xs := h.below hb
theorem ReadsBasket.alloc {w : World} {A : Option Addr} {n : Nat} {xs : List BasketR} (h : ReadsBasket w A n xs) (o : Obj) : ReadsBasket (w.alloc o) A n xs := h.in_ ((In.refl w).alloc o)
theorem ReadsBasket.drew {w : World} {A : Option Addr} {n : Nat} {xs : List BasketR} (h : ReadsBasket w A n xs) : ReadsBasket w.drew A n xs := h.in_ (In.refl w).drew
/-- block g holds these Baskets, each slice in a block of its own behind g -/
def OwnBasket (w : World) (g n : Nat) (xs : List BasketR) : Prop :=
  ∃ (cur : Array Value) (G : Nat → Nat), Blk w g 123 cur ∧ cur.size = n ∧ xs.length = n ∧ (∀ t, t < n → g < G t ∧ (xs.getD t ⟨[]⟩).f0.length ≤ 10000000 ∧ (cur[t]? = some (.slice (some ⟨G t, 0, none⟩) (xs.getD t ⟨[]⟩).f0.length (xs.getD t ⟨[]⟩).f0.length)) ∧ OwnInt w (G t) (xs.getD t ⟨[]⟩).f0.length (xs.getD t ⟨[]⟩).f0) ∧ ∀ t u, t < u → u < n → G t < G u
theorem OwnBasket.reads {w : World} {g n : Nat} {xs : List BasketR} (h : OwnBasket w g n xs) : ReadsBasket w (some ⟨g, 0, none⟩) n xs := by
  obtain ⟨cur, G, hb, hs, hl, hc, hG⟩ := h
  refine ⟨hl, fun k hk => ⟨_, rfl, some ⟨G k, 0, none⟩, (xs.getD k ⟨[]⟩).f0.length, ?_, Nat.le_refl _, ?_, (hc k hk).2.2.2.reads⟩⟩
  · have := (hc k hk).2.2.1
    simp only [Addr.add_lit, Nat.zero_add, hb.cell]
    exact this
  · have := (hc k hk).2.1
    unfold maxLen; omega
theorem OwnBasket.below {w w' : World} {g n : Nat} {xs : List BasketR} (h : OwnBasket w g n xs) (hb : Below w.heap.size w w') : OwnBasket w' g n xs := by
  obtain ⟨cur, G, hk, hs, hl, hc, hG⟩ := h
  exact ⟨cur, G, hk.step hb, hs, hl, fun t ht => ⟨(hc t ht).1, (hc t ht).2.1, (hc t ht).2.2.1, (hc t ht).2.2.2.step hb⟩, hG⟩
def totBasket (xs : List BasketR) (k : Nat) : Int := sumTo (fun i => ((xs.getD i ⟨[]⟩).f0.length : Int)) k
def szVBasket (left t : Int) : Int := if left < t then -1 else left - t
theorem totBasket_nn (xs : List BasketR) (a b : Nat) (h : a ≤ b) : 0 ≤ totBasket xs a ∧ totBasket xs a ≤ totBasket xs b := by
  refine ⟨?_, sumTo_mono _ a b h fun i hi => by omega⟩
  have := sumTo_mono (fun i => ((xs.getD i ⟨[]⟩).f0.length : Int)) 0 a (Nat.zero_le _) fun i hi => by omega
  simpa [sumTo, totBasket] using this
theorem totBasket_at (xs : List BasketR) (n i : Nat) (hi : i < n) : ((xs.getD i ⟨[]⟩).f0.length : Int) ≤ totBasket xs n := by
  have h1 := totBasket_nn xs i i (Nat.le_refl _)
  have h2 := totBasket_nn xs (i + 1) n (by omega)
  have h3 : totBasket xs (i + 1) = totBasket xs i + ((xs.getD i ⟨[]⟩).f0.length : Int) := rfl
  omega
theorem szBasket_c (A : Option Addr) (n c : Nat) (left : Int) (w : World) (hn : n ≤ maxLen) (h1 : 0 ≤ left) (h2 : left ≤ 2000000) : Calls Try.prog 93 #[.agg #[.slice A n c], .int .i64 left] w (Val (.int .i64 (if left < n then -1 else left - n)) w) := by
  have HS := Lib.hid (fun W => szI_c A n c left W hn h1 h2)
  by_cases h : left < n
  · rw [if_pos h] at HS ⊢
    go_enter Try.func93, Try.ntmps93
    go_wp2_with fail
    refine (HS.out _).mono ?_
    rintro _ _ ⟨rfl, rfl⟩
    go_wp2
    go_ret
    exact Val.mk' rfl (by (repeat (first | exact In.refl _ | assumption | apply In.alloc | apply In.drewN | apply In.drew | (refine In.step ?_ (by assumption)))))
  · rw [if_neg h] at HS ⊢
    have h' : 0 ≤ left - n := by omega
    have hd : decide (left - (n : Int) < 0) = false := by simp; omega
    go_enter Try.func93, Try.ntmps93
    go_wp2_with fail
    refine (HS.out _).mono ?_
    rintro _ _ ⟨rfl, rfl⟩
    go_wp2
    go_ret
    exact Val.mk' rfl (by (repeat (first | exact In.refl _ | assumption | apply In.alloc | apply In.drewN | apply In.drew | (refine In.step ?_ (by assumption)))))
theorem szBasketS_c (A : Option Addr) (n c : Nat) (xs : List BasketR) (left : Int) (w : World) (hn : n ≤ maxLen) (h1 : 0 ≤ left) (h2 : left ≤ 2000000) (hx : ReadsBasket w A n xs) : Calls Try.prog 15 #[.slice A n c, .int .i64 left] w (Val (.int .i64 (szVBasket left ((n : Int) + totBasket xs n))) w) := by
  unfold maxLen at hn
  have ht := totBasket_nn xs n n (Nat.le_refl _)
  by_cases h : left < n
  · have HV : Hid (szVBasket left ((n : Int) + totBasket xs n) = -1) := Lib.hid (by rw [szVBasket, if_pos (by omega)])
    have h' : left - n < 0 := by omega
    clear ht
    go_enter Try.func15, Try.ntmps15
    go_wp2
    all_goals first | (exfalso; omega) | skip
    go_ret
    exact Val.mk' (v_int HV.out.symm) (by (repeat (first | exact In.refl _ | assumption | apply In.alloc | apply In.drewN | apply In.drew | (refine In.step ?_ (by assumption)))))
  have HV : Hid (szVBasket left ((n : Int) + totBasket xs n) = szVBasket (left - n) (totBasket xs n)) := Lib.hid (by
    unfold szVBasket
    by_cases hc : left < n + totBasket xs n
    · rw [if_pos hc, if_pos (by omega)]
    · rw [if_neg hc, if_neg (by omega)]; omega)
  have h' : 0 ≤ left - n := by omega
  rw [HV.out]
  clear HV ht
  have hd : decide (left - (n : Int) < 0) = false := by simp; omega
  go_enter Try.func15, Try.ntmps15
  go_wp2
  clear hd
  go_loopw [1, 5] (fun l i wr => ∃ k : Nat, k ≤ n ∧ i = .int .i64 k ∧ totBasket xs k ≤ left - n ∧ l = .int .i64 (left - n - totBasket xs k) ∧ In w.heap.size w wr) (fun _ i _ => n - (intOf i).toNat)
  case atStart => exact ⟨0, Nat.zero_le _, rfl, by simp [totBasket, sumTo]; omega, by simp [totBasket, sumTo], by (repeat (first | exact In.refl _ | assumption | apply In.alloc | apply In.drewN | apply In.drew | (refine In.step ?_ (by assumption))))⟩
  case round =>
    obtain ⟨k, hk, rfl, hle, rfl, hi⟩ := hrel
    have hU : totBasket xs (k + 1) = totBasket xs k + ((xs.getD k ⟨[]⟩).f0.length : Int) := rfl
    have HU := Lib.hid hU
    have hb := totBasket_nn xs k k (Nat.le_refl _)
    have HN : Hid (k < n → totBasket xs (k + 1) ≤ totBasket xs n) := Lib.hid fun h => (totBasket_nn xs (k + 1) n (by omega)).2
    clear hU
    by_cases hlt : k < n
    · obtain ⟨a, rfl, B, c', h0, hl, hm, hr⟩ := (hx.in_ hi).2 k hlt
      have HN2 := Lib.hid (HN.out hlt)
      clear hr HN
      generalize hxk : (xs.getD k ⟨[]⟩) = xk at *
      obtain ⟨x0⟩ := xk
      simp only at h0 hl HU
      generalize x0.length = m at *
      generalize totBasket xs k = s at *
      have hm' : m ≤ maxLen := Nat.le_trans hl hm
      clear hm hxk
      by_cases hc2 : left - n - s < m
      · have HF : Hid (szVBasket (left - n) (totBasket xs n) = -1) := Lib.hid (by
          have h1 := HU.out
          have h2 := HN2.out
          rw [szVBasket, if_pos (by omega)])
        go_wp2_with fail
        refine (szBasket_c B m c' (left - n - s) _ hm' (by omega) (by omega)).mono ?_
        rintro _ w1 ⟨rfl, hb1⟩
        rw [if_pos hc2]
        go_wp2
        go_ret
        exact Val.mk' (v_int HF.out.symm) (by (repeat (first | exact In.refl _ | assumption | apply In.alloc | apply In.drewN | apply In.drew | (refine In.step ?_ (by assumption)))))
      · go_wp2_with fail
        refine (szBasket_c B m c' (left - n - s) _ hm' (by omega) (by omega)).mono ?_
        rintro _ w1 ⟨rfl, hb1⟩
        rw [if_neg (by omega)]
        have hd : decide (left - (n : Int) - s - (m : Int) < 0) = false := by simp; omega
        go_wp2
        clear hd
        go_roundw
        case rel => exact ⟨k + 1, by omega, by go_num, by rw [HU.out]; omega, v_int (by rw [HU.out]; omega), by (repeat (first | exact In.refl _ | assumption | apply In.alloc | apply In.drewN | apply In.drew | (refine In.step ?_ (by assumption))))⟩
        case measure => simp [intOf]; omega
    · obtain rfl : k = n := by omega
      go_wp2
      go_ret
      exact Val.mk' (v_int (by rw [szVBasket, if_neg (by omega)])) (by (repeat (first | exact In.refl _ | assumption | apply In.alloc | apply In.drewN | apply In.drew | (refine In.step ?_ (by assumption)))))
theorem eqBasket_c (A B : Option Addr) (n c d : Nat) (xs : List Int) (w : World) (hn : n ≤ maxLen) (hx : ReadsI w A n xs) (hy : ReadsI w B n xs) : Calls Try.prog 100 #[.agg #[.slice A n c], .agg #[.slice B n d]] w (Val (.bool true) w) := by
  have HX := Lib.hid (fun W (h : In w.heap.size w W) => eqI_c A B n c d xs W hn (hx.below h.below (Nat.le_refl _)) (hy.below h.below (Nat.le_refl _)))
  go_enter Try.func100, Try.ntmps100
  go_wp2_with fail
  refine (HX.out _ (by (repeat (first | exact In.refl _ | assumption | apply In.alloc | apply In.drewN | apply In.drew | (refine In.step ?_ (by assumption)))))).mono ?_
  rintro _ w1 ⟨rfl, hb1⟩
  go_wp2
  go_ret
  exact Val.mk' rfl (by (repeat (first | exact In.refl _ | assumption | apply In.alloc | apply In.drewN | apply In.drew | (refine In.step ?_ (by assumption)))))
theorem eqheldBasket {w w' : World} {a b : Addr} {k : Nat} {u v : Value} (hi : In w.heap.size w w') (ha : w.cell? (a.add k) = some u) (hb : w.cell? (b.add k) = some v) :
    In w.heap.size w w' ∧ (w'.cell? (a.add k) = some u) ∧ w'.cell? (b.add k) = some v := by
  have a0 := ha
  have b0 := hb
  exact ⟨hi, cell_in a0 hi, cell_in b0 hi⟩
theorem eqBasketS_c (A B : Option Addr) (n c d : Nat) (xs : List BasketR) (w : World) (hn : n ≤ maxLen) (hx : ReadsBasket w A n xs) (hy : ReadsBasket w B n xs) :
    Calls Try.prog 20 #[.slice A n c, .slice B n d] w (Val (.bool true) w) := by
  unfold maxLen at hn
  go_enter Try.func20, Try.ntmps20
  go_wp2
  go_loopw [5] (fun i wr => ∃ (k : Nat), k ≤ n ∧ i = .int .i64 k ∧ In w.heap.size w wr) (fun i _ => n - (intOf i).toNat)
  case atStart => exact ⟨0, Nat.zero_le _, rfl, by (repeat (first | exact In.refl _ | assumption | apply In.alloc | apply In.drewN | apply In.drew | (refine In.step ?_ (by assumption))))⟩
  case round =>
    obtain ⟨k, hk, rfl, hi⟩ := hrel
    by_cases hlt : k < n
    · obtain ⟨a, rfl, A', c', ha, hl, hm, hra⟩ := hx.2 k hlt
      obtain ⟨b, rfl, B', d', hb, hl2, hm2, hrb⟩ := hy.2 k hlt
      generalize (xs.getD k ⟨[]⟩) = x at *
      obtain ⟨x0⟩ := x
      simp only at ha hb hl hl2 hra hrb
      have hxm : x0.length ≤ maxLen := Nat.le_trans hl hm
      have HC := Lib.hid (fun W (h : In w.heap.size w W) => eqBasket_c A' B' x0.length c' d' x0 W hxm (hra.below h.below (Nat.le_refl _)) (hrb.below h.below (Nat.le_refl _)))
      have HA := Lib.hid ha
      have HB := Lib.hid hb
      clear ha hb
      obtain ⟨hi0, f0, g0⟩ := eqheldBasket hi HA.out HB.out
      clear hi0
      clear hra hrb hm hm2 hl hl2
      go_wp2
      clear g0 f0
      refine wp_region_S (C := (fun w' => In w.heap.size w w' ∧ (w'.cell? (a.add k) = some (.slice A' x0.length c')) ∧ w'.cell? (b.add k) = some (.slice B' x0.length d'))) (by kernel_rfl) (by kernel_rfl) ?_ ?_
      · exact eqheldBasket (by (repeat (first | exact In.refl _ | assumption | apply In.alloc | apply In.drewN | apply In.drew | (refine In.step ?_ (by assumption))))) HA.out HB.out
      repeat (first | go_big_quiet_skip | (go_big_quiet_want; first | (refine quiet_ex ?_; apply Exists.intro; refine ⟨fun W hW => ?_, ?_⟩; (· (obtain ⟨i1, f0, g0⟩ := hW; go_simp; (first | done | with_reducible rfl | rfl))); simp only [Act.put, List.setIfInBounds_toArray, List.set_cons_zero, List.set_cons_succ]; go_big_quiet_on) | (refine quiet_ex ?_; apply Exists.intro; refine ⟨fun W hW => ?_, ?_⟩; (· (go_simp; first | (go_at_call 100; (with_reducible refine (HC.out _ hW.1).mono ?_); rintro e w2 ⟨rfl, hb2⟩; exact ⟨rfl, eqheldBasket (hW.1.step hb2) HA.out HB.out⟩))); simp only [Act.put, List.setIfInBounds_toArray, List.set_cons_zero, List.set_cons_succ]; go_big_quiet_on)))
      refine wpQuiet_nil ?_
      rintro w' ⟨i1, f0, g0⟩
      go_wp2
      go_roundw
      case rel => exact ⟨k + 1, by omega, by go_num, by (repeat (first | exact In.refl _ | assumption | apply In.alloc | apply In.drewN | apply In.drew | (refine In.step ?_ (by assumption))))⟩
      case measure => simp [intOf]; omega
    · obtain rfl : k = n := by omega
      go_wp2
      go_ret
      exact Val.mk' rfl (by (repeat (first | exact In.refl _ | assumption | apply In.alloc | apply In.drewN | apply In.drew | (refine In.step ?_ (by assumption)))))
theorem toBasket_c (A : Option Addr) (n c : Nat) (xs : List Int) (w : World) (hn : (n : Int) ≤ 10000000) (hx : ReadsI w A n xs) :
    Calls Try.prog 97 #[.agg #[.slice A n c]] w (fun e w' => ∃ g, e = .returned (.agg #[.slice (some ⟨g, 0, none⟩) n n]) ∧ OwnInt w' g n xs ∧ w.heap.size ≤ g ∧ Below w.heap.size w w') := by
  obtain ⟨p, hp⟩ : ∃ p, p = w.heap.size := ⟨_, rfl⟩
  obtain ⟨r, hr⟩ : ∃ r, r = w.heap.size + 1 := ⟨_, rfl⟩
  obtain ⟨q, hq⟩ : ∃ q, q = w.heap.size + 1 + 1 := ⟨_, rfl⟩
  have hlen := hx.1
  have kA : Blk (((w.alloc (.cells #[.slice A n c] 120)).alloc (.cells #[.slice none 0 0] 123)).alloc (.cells #[.slice none 0 0] 123)) p 120 #[.slice A n c] := by rw [hp]; exact ((Blk.new w _ _).alloc _).alloc _
  have kR : Blk (((w.alloc (.cells #[.slice A n c] 120)).alloc (.cells #[.slice none 0 0] 123)).alloc (.cells #[.slice none 0 0] 123)) r 123 #[.slice none 0 0] := (Blk.new' (by simp [hr])).alloc _
  have kO : Blk (((w.alloc (.cells #[.slice A n c] 120)).alloc (.cells #[.slice none 0 0] 123)).alloc (.cells #[.slice none 0 0] 123)) q 123 #[.slice none 0 0] := Blk.new' (by simp [hq])
  have hx0 := ((hx.alloc (.cells #[.slice A n c] 120)).alloc (.cells #[.slice none 0 0] 123)).alloc (.cells #[.slice none 0 0] 123)
  have i0 : In w.heap.size w (((w.alloc (.cells #[.slice A n c] 120)).alloc (.cells #[.slice none 0 0] 123)).alloc (.cells #[.slice none 0 0] 123)) := by (repeat (first | exact In.refl _ | assumption | apply In.alloc | apply In.drewN | apply In.drew | (refine In.step ?_ (by assumption))))
  go_enter Try.func97, Try.ntmps97
  go_wp2_with fail
  rw [← hq, ← hr]
  try rw [← hp]
  generalize (((w.alloc (.cells #[.slice A n c] 120)).alloc (.cells #[.slice none 0 0] 123)).alloc (.cells #[.slice none 0 0] 123)) = w0 at *
  refine (toI_at A n c xs w0 hn hx0).mono ?_
  rintro _ w1 ⟨g, rfl, ho, hg, hb⟩
  rw [hlen] at ho
  rw [hlen]
  have hqr : q ≠ r := by omega
  have hqp : q ≠ p := by omega
  have hrp : r ≠ p := by omega
  have hrw : w.heap.size ≤ r := by omega
  have hqw : w.heap.size ≤ q := by omega
  have hgw : w.heap.size ≤ g := Nat.le_trans i0.size hg
  clear hr hq hx hx0
  have lr := kR.lt
  have lq := kO.lt
  have k1 := kO.step hb
  have k2 := kR.step hb
  have k3 := kA.step hb
  have cq0 := k1.cell 0
  have zq0 := k1.frozen 0
  have cr0 := k2.cell 0
  have zr0 := k2.frozen 0
  have ca0 := k3.cell 0
  have hgq : g ≠ q := by omega
  have hgr : g ≠ r := by omega
  have ho0 : OwnInt w1 g n xs := ho
  have i1 := i0.step hb
  have HO : Hid (OwnInt ((w1.setCell ⟨q, 0, none⟩ (.slice (some ⟨g, 0, none⟩) n n)).setCell ⟨r, 0, none⟩ (.slice (some ⟨g, 0, none⟩) n n)) g n xs) := Lib.hid ((ho0.only (only_set _ _) hgq).only (only_set _ _) hgr)
  have i2 : In w.heap.size w ((w1.setCell ⟨q, 0, none⟩ (.slice (some ⟨g, 0, none⟩) n n)).setCell ⟨r, 0, none⟩ (.slice (some ⟨g, 0, none⟩) n n)) := ((i1.set_ (p := ⟨q, 0, none⟩) hqw _).set_ (p := ⟨r, 0, none⟩) hrw _)
  have HK : Hid (((w1.setCell ⟨q, 0, none⟩ (.slice (some ⟨g, 0, none⟩) n n)).setCell ⟨r, 0, none⟩ (.slice (some ⟨g, 0, none⟩) n n)).cell? ⟨r, 0, none⟩ = some (.slice (some ⟨g, 0, none⟩) n n)) := Lib.hid (by
    have h := ((k2.far (p := ⟨q, 0, none⟩) hqr.symm (.slice (some ⟨g, 0, none⟩) n n)).set_ 0 (.slice (some ⟨g, 0, none⟩) n n))
    have h0 := h.cell 0
    exact by simpa using h0)
  clear ho ho0 k1 k2 k3 kA kR kO hb i0 i1 lr lq hp
  simp at cq0 cr0 ca0
  go_wp2
  have hk0 := HK.out
  exact bodyPost_ret (v := .agg #[.slice (some ⟨g, 0, none⟩) n n]) (by simp [results, Try.results97, go_sem, hk0]) rfl ⟨g, rfl, HO.out, hgw, i2.below⟩
theorem infoBasket : (Try.prog.info? 123).map (fun i => (i.zero, i.size)) = some (some (.agg #[.slice none 0 0]), 1) := by kernel_rfl
theorem bytesBasket : (Try.prog.info? 123).map (fun i => decide (i.bytes ≤ 64)) = some true := by kernel_rfl
/-- what a call answers that makes a row of Baskets of its own -/
def RowBasket (xs : List BasketR) (w : World) (e : Ending) (w' : World) : Prop :=
  ∃ g, e = .returned (.slice (some ⟨g, 0, none⟩) xs.length xs.length) ∧ OwnBasket w' g xs.length xs ∧ w.heap.size ≤ g ∧ Below w.heap.size w w'
set_option maxHeartbeats 2000000 in
theorem toBasketS_c (A : Option Addr) (n c : Nat) (xs : List BasketR) (w : World) (hn : (n : Int) ≤ 10000000) (hl : ∀ k, k < n → ((xs.getD k ⟨[]⟩).f0.length : Int) ≤ 10000000) (hx : ReadsBasket w A n xs) :
    Calls Try.prog 17 #[.slice A n c] w (RowBasket xs w) := by
  obtain ⟨i0, hi0, hz0, hz1⟩ : ∃ i, Try.prog.info? 123 = some i ∧ i.zero = some (.agg #[.slice none 0 0]) ∧ i.size = 1 := by
    have h := infoBasket
    cases hh : Try.prog.info? 123 with
    | none => rw [hh] at h; cases h
    | some i => rw [hh] at h; simp at h; exact ⟨i, rfl, h.1, h.2⟩
  have hz2 : i0.bytes ≤ 64 := by
    have h := bytesBasket
    rw [hi0] at h
    simpa using h
  have HLEN := Lib.hid hx.1
  have HL := Lib.hid hl
  clear hl
  go_enter Try.func17, Try.ntmps17
  go_wp2_with (at_make; refine wpList_make_full _ rfl (.tmp 6) (.tmp 6) 26 rfl w.heap.size 123 i0 (.agg #[.slice none 0 0]) 1 Try.underlying26 hi0 hz0 hz1 .i64 .i64 (n : Int) (n : Int) n rfl rfl rfl rfl ?h2 ?h3 ?h4 ?_)
  case h2 =>
    have : i0.bytes * n ≤ 64 * n := Nat.mul_le_mul_right _ hz2
    omega
  case h3 => unfold maxLen; omega
  case h4 => exact Nat.le_refl _
  intro w1 hown0 hgrow0
  have hb0 : Below w.heap.size w w1 := (Below.refl _ _).grown hgrow0 (Nat.le_refl _) (fun j hj => by cases hj)
  clear hgrow0
  obtain ⟨cur0, hk0, hs0⟩ : ∃ cur : Array Value, Blk w1 w.heap.size 123 cur ∧ cur.size = n := by
    rcases hown0.2 with ⟨h, _⟩ | ⟨g, cap, cur, h, hg, hh, hnc, hcp, hcs, htake⟩
    · cases h
    · injection h with h1 h2 h3
      injection h1 with h1
      injection h1 with h1
      subst h1 h3
      exact ⟨cur, hh, by omega⟩
  have HS0 := Lib.hid hs0
  have hz0 := hk0.lt
  clear hown0 hs0
  go_wp2
  go_loopw [4] (fun i wr => ∃ (k : Nat) (cur : Array Value) (G : Nat → Nat), k ≤ n ∧ i = .int .i64 k ∧ Blk wr w.heap.size 123 cur ∧ cur.size = n ∧
    (∀ t, t < k → w.heap.size < G t ∧ G t < wr.heap.size ∧ (xs.getD t ⟨[]⟩).f0.length ≤ 10000000 ∧ (cur[t]? = some (.slice (some ⟨G t, 0, none⟩) (xs.getD t ⟨[]⟩).f0.length (xs.getD t ⟨[]⟩).f0.length)) ∧ OwnInt wr (G t) (xs.getD t ⟨[]⟩).f0.length (xs.getD t ⟨[]⟩).f0) ∧ (∀ t u, t < u → u < k → G t < G u) ∧ Below w.heap.size w wr) (fun i _ => n - (intOf i).toNat)
  case atStart => exact ⟨0, cur0, fun _ => 0, Nat.zero_le _, rfl, hk0, HS0.out, fun t ht => absurd ht (Nat.not_lt_zero _), fun t u _ hu => absurd hu (Nat.not_lt_zero _), hb0⟩
  case round =>
    clear hk0 hb0 HS0 hz0
    obtain ⟨k, cur, G, hk, rfl, hK, hs, hp, hG, hb⟩ := hrel
    have HS := Lib.hid hs
    have HP := Lib.hid hp
    have HG := Lib.hid hG
    clear hs hp hG
    by_cases hlt : k < n
    · obtain ⟨a, rfl, B, c', h0, g1, g2, hr⟩ := (hx.in_ ⟨hb, hb.size⟩).2 k hlt
      have HLk := Lib.hid (HL.out k hlt)
      generalize hx0 : (xs.getD k ⟨[]⟩) = x at *
      have HX := Lib.hid hx0
      clear hx0 g1 g2
      obtain ⟨x0⟩ := x
      simp only at h0 hr HLk
      have hlen : Hid ((x0.length : Int) ≤ 10000000) := HLk
      go_wp2_with fail
      refine (toBasket_c B x0.length c' x0 _ hlen.out hr).mono ?_
      rintro e w2 ⟨g2, rfl, ho2, hg2, hb2⟩
      have hK2 := Blk.step hK hb2
      have hB2 : Below w.heap.size w w2 := hb.trans (hb2.mono hb.size)
      have hkl := hK.lt
      have hg2' : w.heap.size < g2 := Nat.lt_of_lt_of_le hkl hg2
      have ho2l := OwnInt.lt ho2
      obtain ⟨y0, hy0⟩ : ∃ y, w2.cell? ⟨w.heap.size, k, none⟩ = some y := ⟨cur[k]'(by have := HS.out; omega), by rw [hK2.cell]; simp⟩
      have z0 := hK2.frozen (k)
      have hlt3 := hK2.lt
      have HP2 : Hid (∀ t, t < k → w.heap.size < G t ∧ G t < w2.heap.size ∧ (xs.getD t ⟨[]⟩).f0.length ≤ 10000000 ∧ (cur[t]? = some (.slice (some ⟨G t, 0, none⟩) (xs.getD t ⟨[]⟩).f0.length (xs.getD t ⟨[]⟩).f0.length)) ∧ OwnInt w2 (G t) (xs.getD t ⟨[]⟩).f0.length (xs.getD t ⟨[]⟩).f0) := Lib.hid fun t ht => by
        obtain ⟨p1, p2, p3, p4, p5⟩ := HP.out t ht
        exact ⟨p1, Nat.lt_of_lt_of_le p2 hb2.size, p3, p4, p5.step hb2⟩
      have HSZ := Lib.hid hg2
      have HSZ2 := Lib.hid hb2.size
      have HO2 := Lib.hid ho2
      have hon : Hid (w2.grownBy (w2.setCell ⟨w.heap.size, k, none⟩ (.slice (some ⟨g2, 0, none⟩) x0.length x0.length)) (some w.heap.size)) := Lib.hid (only_setCell (only_refl w2 _) (p := ⟨w.heap.size, k, none⟩) (Or.inl rfl) _)
      clear hb2 hb hK ho2 hg2
      go_wp2
      go_roundw
      case rel =>
        refine ⟨k + 1, (cur.setIfInBounds (k) (.slice (some ⟨g2, 0, none⟩) x0.length x0.length)), fun t => if t = k then g2 else G t, by omega, by go_num, (hK2.set_ _ _), by simp; exact HS.out, fun t ht => ?_, fun t u htu hu => ?_, (hB2.setCell (Nat.le_refl _) _)⟩
        rotate_left
        · simp only []
          by_cases e : u = k
          · subst e
            rw [if_neg (by omega), if_pos rfl]
            have := (HP2.out t (by omega)).2.1
            have h3 := (HP.out t (by omega)).2.1
            have h4 := HSZ.out
            omega
          · rw [if_neg (by omega), if_neg e]
            exact HG.out t u htu (by omega)
        have hsz := HS.out
        by_cases e : t = k
        · subst e
          rw [HX.out]
          have := HLk.out
          refine ⟨by simp; exact hg2', by simp; exact ho2l, by simp only []; omega, ?_, ?_⟩
          · simp [Array.getElem?_setIfInBounds, hsz]
            omega
          simp only [if_true]
          exact HO2.out.only hon.out (by omega)
        · obtain ⟨p1, p2, p3, p4, p5⟩ := HP2.out t (by omega)
          have h3 := HSZ2.out
          simp only [if_neg e]
          refine ⟨p1, by simp; omega, p3, ?_, p5.only hon.out (by omega)⟩
          simp only [Array.getElem?_setIfInBounds]
          simp only [if_neg (show k ≠ t by omega)]
          exact p4
      case measure => simp [intOf]; omega
    · obtain rfl : k = n := by omega
      go_wp2
      go_ret
      have hl := HLEN.out
      subst hl
      exact ⟨w.heap.size, rfl, ⟨cur, G, hK, HS.out, rfl, fun t ht => ⟨(HP.out t ht).1, (HP.out t ht).2.2.1, (HP.out t ht).2.2.2.1, (HP.out t ht).2.2.2.2⟩, HG.out⟩, Nat.le_refl _, hb⟩
theorem openI1 {H : Type} {enc : TypeId × Value → H} {w : World} {base : Nat} {held : Bool} {k : Nat} {v : Value} {y : DataW H × List MemPlace}
    (h : DataW.trod enc Try.prog w base (fun _ => true) held k 43 [v] = some y) : ∃ (B : Option Addr) (l c : Nat) (zs : List Int), v = .slice B zs.length c ∧ zs.length ≤ c ∧ c ≤ maxLen ∧ ReadsI w B zs.length zs := by
  rcases open_ints Try.underlying43 Try.underlying3 (by kernel_rfl) h with ⟨hcs, _⟩ | ⟨a, l, c, zs, hcs, _, hl, hm, hz, _, hcell, hwz⟩
  · simp at hcs
    subst hcs
    exact ⟨none, 0, 0, [], rfl, Nat.zero_le _, Nat.zero_le _, rfl, fun i hi => absurd hi (Nat.not_lt_zero _)⟩
  · simp at hcs hz
    subst hcs
    have hlen : (zs.take l).length = l := by rw [List.length_take]; omega
    refine ⟨some a, l, c, zs.take l, by rw [hlen], by omega, hm, rfl, fun i hi => ⟨a, rfl, ?_⟩⟩
    have hi' : i < l := by omega
    rw [hcell i (by omega)]
    simp [List.getD_eq_getElem?_getD, hi']
theorem openBasket {H : Type} {enc : TypeId × Value → H} {w : World} {base : Nat} {held : Bool} {fuel : Nat} {A : Option Addr} {n c : Nat} {x : DataW H × List MemPlace}
    (h : DataW.trod enc Try.prog w base (fun _ => true) held fuel 22 (Value.cells (.slice A n c)).toList = some x) : ∃ zs, n ≤ maxLen ∧ ReadsBasket w A n zs := by
  obtain ⟨hn, hr⟩ := rows_open Try.underlying22 Try.underlying120 (by kernel_rfl) (by kernel_rfl) h
  have h2 : ∀ i, i < n → ∃ r : BasketR, ∃ ad, A = some ad ∧ ∃ (B : Option Addr) (c : Nat), (w.cell? (ad.add i) = some (.slice B r.f0.length c)) ∧ r.f0.length ≤ c ∧ c ≤ maxLen ∧ ReadsI w B r.f0.length r.f0 := fun i hi => by
    obtain ⟨a, hA, hc⟩ := hr i hi
    obtain ⟨v0, k0, y0, hv0, ht0⟩ := hc 0 _ rfl
    obtain ⟨B, l, c1, zs, rfl, q1, q2, q3⟩ := openI1 ht0
    exact ⟨⟨zs⟩, a, hA, B, c1, by simpa using hv0, q1, q2, q3⟩
  obtain ⟨xs, hl, hx⟩ := list_of (⟨[]⟩ : BasketR) _ n h2
  exact ⟨xs, hn, hl, hx⟩
end Go.Proofs.Ytmkfnhgaiheckaa
