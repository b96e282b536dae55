/- Slices of slices of numbers: the laws' helpers by contract. -/
import Derived.Test.YtkibabajalajeaaOwnI
import Derived.Test.YtkibabajalajeaaSum
import Derived.Test.YtkibabajalajeaaQuiet
import Derived.Deep.Matrix
namespace Go.Proofs.Ytkibabajalajeaa
open Go.ChangeShapes Go.WideShapes Go.ChangeAt Go.RowKit
set_option linter.unusedVariables false
set_option linter.unusedSimpArgs false
set_option maxHeartbeats 1000000
set_option maxRecDepth 20000
abbrev IntSR := List Int
/-- a slice of slices that is read -/
def ReadsIntS (w : World) (A : Option Addr) (n : Nat) (xs : List IntSR) : Prop :=
  xs.length = n ∧ ∀ k, k < n → ∃ ad, A = some ad ∧ ∃ (B : Option Addr) (c : Nat), w.cell? (ad.add k) = some (.slice B (xs.getD k []).length c) ∧ (xs.getD k []).length ≤ c ∧ c ≤ maxLen ∧ (B = none → c = 0) ∧ ReadsI w B (xs.getD k []).length (xs.getD k [])
theorem ReadsIntS.in_ {w w' : World} {A : Option Addr} {n : Nat} {xs : List IntSR} (h : ReadsIntS w A n xs) (hi : In w.heap.size w w') : ReadsIntS w' A n xs := by
  refine ⟨h.1, fun k hk => ?_⟩
  obtain ⟨ad, hA, B, c, h0, h1, h2, hnn, h3⟩ := h.2 k hk
  exact ⟨ad, hA, B, c, cell_in h0 hi, h1, h2, hnn, h3.below hi.below (Nat.le_refl _)⟩
theorem ReadsIntS.below {w w' : World} {A : Option Addr} {n : Nat} {xs : List IntSR} (h : ReadsIntS w A n xs) (hb : Below w.heap.size w w') : ReadsIntS w' A n xs := h.in_ ⟨hb, hb.size⟩
theorem ReadsIntS.step {w w' : World} {A : Option Addr} {n : Nat} {xs : List IntSR} (h : ReadsIntS w A n xs) (hb : Below w.heap.size w w') : ReadsIntS w' A n xs := h.below hb
theorem ReadsIntS.alloc {w : World} {A : Option Addr} {n : Nat} {xs : List IntSR} (h : ReadsIntS w A n xs) (o : Obj) : ReadsIntS (w.alloc o) A n xs := h.in_ ((In.refl w).alloc o)
theorem ReadsIntS.drew {w : World} {A : Option Addr} {n : Nat} {xs : List IntSR} (h : ReadsIntS w A n xs) : ReadsIntS w.drew A n xs := h.in_ (In.refl w).drew
/-- block g holds slices, each in a block of its own behind g -/
def OwnIntS (w : World) (g n : Nat) (xs : List IntSR) : Prop :=
  ∃ (cur : Array Value) (G : Nat → Nat), Blk w g 52 cur ∧ cur.size = n ∧ xs.length = n ∧ (∀ t, t < n → g < G t ∧ (xs.getD t []).length ≤ 10000000 ∧ cur[t]? = some (.slice (some ⟨G t, 0, none⟩) (xs.getD t []).length (xs.getD t []).length) ∧ OwnInt w (G t) (xs.getD t []).length (xs.getD t [])) ∧ ∀ t u, t < u → u < n → G t < G u
theorem OwnIntS.reads {w : World} {g n : Nat} {xs : List IntSR} (h : OwnIntS w g n xs) : ReadsIntS w (some ⟨g, 0, none⟩) n xs := by
  obtain ⟨cur, G, hb, hs, hl, hc, hG⟩ := h
  refine ⟨hl, fun k hk => ⟨_, rfl, some ⟨G k, 0, none⟩, (xs.getD k []).length, ?_, Nat.le_refl _, ?_, (fun h => by cases h), (hc k hk).2.2.2.reads⟩⟩
  · rw [Addr.add_lit, Nat.zero_add, hb.cell]
    exact (hc k hk).2.2.1
  · have := (hc k hk).2.1
    unfold maxLen; omega
theorem OwnIntS.below {w w' : World} {g n B : Nat} {xs : List IntSR} (h : OwnIntS w g n xs) (hb : Below w.heap.size w w') : OwnIntS w' g n xs := by
  obtain ⟨cur, G, hk, hs, hl, hc, hG⟩ := h
  exact ⟨cur, G, hk.step hb, hs, hl, fun t ht => ⟨(hc t ht).1, (hc t ht).2.1, (hc t ht).2.2.1, (hc t ht).2.2.2.step hb⟩, hG⟩
def totTo (xs : List IntSR) (k : Nat) : Int := sumTo (fun i => ((xs.getD i []).length : Int)) k
def totSS (n : Nat) (xs : List IntSR) : Int := (n : Int) + totTo xs n
theorem totTo_nn (xs : List IntSR) (a b : Nat) (h : a ≤ b) : 0 ≤ totTo xs a ∧ totTo xs a ≤ totTo xs b := by
  refine ⟨?_, sumTo_mono _ a b h fun i hi => by omega⟩
  have := sumTo_mono (fun i => ((xs.getD i []).length : Int)) 0 a (Nat.zero_le _) fun i hi => by omega
  simpa [sumTo, totTo] using this
theorem totTo_at (xs : List IntSR) (n i : Nat) (hi : i < n) : ((xs.getD i []).length : Int) ≤ totTo xs n := by
  have h1 := totTo_nn xs i i (Nat.le_refl _)
  have h2 := totTo_nn xs (i + 1) n (by omega)
  have h3 : totTo xs (i + 1) = totTo xs i + ((xs.getD i []).length : Int) := rfl
  omega
theorem szI_c (A : Option Addr) (n c : Nat) (left : Int) (w : World) (hn : n ≤ maxLen) (h1 : 0 ≤ left) (h2 : left ≤ 2000000) : Calls Try.prog 46 #[.slice A n c, .int .i64 left] w (Same (.int .i64 (if left < n then -1 else left - n)) w) := by
  unfold maxLen at hn
  by_cases h : left < n
  · rw [if_pos h]
    have h' : left - n < 0 := by omega
    go_enter Try.func46, Try.ntmps46
    go_wp2
    all_goals first | (exfalso; omega) | skip
    go_ret
    exact ⟨rfl, rfl⟩
  · rw [if_neg h]
    have h' : 0 ≤ left - n := by omega
    go_enter Try.func46, Try.ntmps46
    go_wp2
    all_goals first | (exfalso; omega) | skip
    go_ret
    exact ⟨rfl, rfl⟩
def szV (left t : Int) : Int := if left < t then -1 else left - t
theorem szIntSS_c (A : Option Addr) (n c : Nat) (xs : List IntSR) (left : Int) (w : World) (hn : n ≤ maxLen) (h1 : 0 ≤ left) (h2 : left ≤ 2000000) (hx : ReadsIntS w A n xs) : Calls Try.prog 10 #[.slice A n c, .int .i64 left] w (Same (.int .i64 (szV left (totSS n xs))) w) := by
  unfold maxLen at hn
  have ht := totTo_nn xs n n (Nat.le_refl _)
  by_cases h : left < n
  · have HV : Hid (szV left (totSS n xs) = -1) := Lib.hid (by rw [szV, if_pos (by unfold totSS; omega)])
    have h' : left - n < 0 := by omega
    clear ht
    go_enter Try.func10, Try.ntmps10
    go_wp2
    all_goals first | (exfalso; omega) | skip
    go_ret
    exact ⟨ret_int HV.out.symm, rfl⟩
  have HV : Hid (szV left (totSS n xs) = szV (left - n) (totTo xs n)) := Lib.hid (by
    unfold totSS szV
    by_cases hc : left < n + totTo xs n
    · rw [if_pos hc, if_pos (by omega)]
    · rw [if_neg hc, if_neg (by omega)]; omega)
  have h' : 0 ≤ left - n := by omega
  rw [HV.out]
  clear HV ht
  have hd : decide (left - (n : Int) < 0) = false := by simp; omega
  go_enter Try.func10, Try.ntmps10
  go_wp2
  clear hd
  go_loop [1, 5] (fun l i => ∃ k : Nat, k ≤ n ∧ i = .int .i64 k ∧ totTo xs k ≤ left - n ∧ l = .int .i64 (left - n - totTo xs k)) (fun _ i => n - (intOf i).toNat)
  case atStart => exact ⟨0, Nat.zero_le _, rfl, by simp [totTo, sumTo]; omega, by simp [totTo, sumTo]⟩
  case round =>
    obtain ⟨k, hk, rfl, hle, rfl⟩ := hrel
    have hU : totTo xs (k + 1) = totTo xs k + ((xs.getD k []).length : Int) := rfl
    have HU := Lib.hid hU
    have hb := totTo_nn xs k k (Nat.le_refl _)
    have HN : Hid (k < n → totTo xs (k + 1) ≤ totTo xs n) := Lib.hid fun h => (totTo_nn xs (k + 1) n (by omega)).2
    clear hU
    by_cases hlt : k < n
    · obtain ⟨a, rfl, B, c', hc, hl, hm, hnn, hr⟩ := hx.2 k hlt
      have HN2 := Lib.hid (HN.out hlt)
      clear hr HN hnn
      generalize (xs.getD k []).length = m at *
      generalize totTo xs k = s at *
      have hm' : m ≤ maxLen := Nat.le_trans hl hm
      clear hm
      by_cases hc2 : left - n - s < m
      · have HF : Hid (szV (left - n) (totTo xs n) = -1) := Lib.hid (by
          have h1 := HU.out
          have h2 := HN2.out
          rw [szV, if_pos (by omega)])
        go_wp2_with fail
        refine (szI_c B m c' (left - n - s) _ hm' (by omega) (by omega)).mono ?_
        rintro _ _ ⟨rfl, rfl⟩
        rw [if_pos hc2]
        go_wp2
        go_ret
        exact ⟨ret_int HF.out.symm, rfl⟩
      · go_wp2_with fail
        refine (szI_c B m c' (left - n - s) _ hm' (by omega) (by omega)).mono ?_
        rintro _ _ ⟨rfl, rfl⟩
        rw [if_neg (by omega)]
        have hd : decide (left - (n : Int) - s - (m : Int) < 0) = false := by simp; omega
        go_wp2
        clear hd
        go_round
        case rel => exact ⟨k + 1, by omega, by go_num, by rw [HU.out]; omega, v_int (by rw [HU.out]; omega)⟩
        case measure => simp [intOf]; omega
    · obtain rfl : k = n := by omega
      go_wp2
      go_ret
      exact ⟨ret_int (by rw [szV, if_neg (by omega)]), rfl⟩
theorem eqIntSS_c (A B : Option Addr) (n c d : Nat) (xs : List IntSR) (w : World) (hn : n ≤ maxLen) (hx : ReadsIntS w A n xs) (hy : ReadsIntS w B n xs) :
    Calls Try.prog 16 #[.slice A n c, .slice B n d] w (Val (.bool true) w) := by
  unfold maxLen at hn
  go_enter Try.func16, Try.ntmps16
  go_wp2
  go_loopw [5] (fun i wr => ∃ (k : Nat), k ≤ n ∧ i = .int .i64 k ∧ In w.heap.size w wr) (fun i _ => n - (intOf i).toNat)
  case atStart => exact ⟨0, Nat.zero_le _, rfl, by (repeat (first | exact In.refl _ | assumption | apply In.alloc | apply In.drewN | apply In.drew | (refine In.step ?_ (by assumption))))⟩
  case round =>
    obtain ⟨k, hk, rfl, hi⟩ := hrel
    by_cases hlt : k < n
    · obtain ⟨a, rfl, A', c', ha, hl, hm, hnn, hra⟩ := hx.2 k hlt
      obtain ⟨b, rfl, B', d', hb, hl2, hm2, hnn2, hrb⟩ := hy.2 k hlt
      generalize xs.getD k [] = x at *
      have hxm : x.length ≤ maxLen := Nat.le_trans hl hm
      have HC := Lib.hid (fun W (h : In w.heap.size w W) => eqIntS_c A' B' x.length c' d' x W hxm (hra.below h.below (Nat.le_refl _)) (hrb.below h.below (Nat.le_refl _)))
      have ca := cell_in ha hi
      have cb := cell_in hb hi
      clear hra hrb hm hm2 hl hl2 hnn hnn2
      go_wp2
      refine wp_region_S (C := (fun w' => In w.heap.size w w' ∧ w'.cell? (a.add k) = some (.slice A' x.length c') ∧ w'.cell? (b.add k) = some (.slice B' x.length d'))) (by kernel_rfl) (by kernel_rfl) ?_ ?_
      · exact ⟨by (repeat (first | exact In.refl _ | assumption | apply In.alloc | apply In.drewN | apply In.drew | (refine In.step ?_ (by assumption)))), ca, cb⟩
      repeat (first | go_big_quiet_skip | (go_big_quiet_want; first | (refine quiet_ex ?_; apply Exists.intro; refine ⟨fun W hW => ?_, ?_⟩; (· (obtain ⟨i1, f0, f1⟩ := hW; go_simp; (first | done | with_reducible rfl | rfl))); simp only [Act.put, List.setIfInBounds_toArray, List.set_cons_zero, List.set_cons_succ]; go_big_quiet_on) | (refine quiet_ex ?_; apply Exists.intro; refine ⟨fun W hW => ?_, ?_⟩; (· (go_simp; first | (go_at_call 35; (with_reducible refine (HC.out _ hW.1).mono ?_); rintro e w2 ⟨rfl, hb2⟩; exact ⟨rfl, hW.1.step hb2, cell_in ha (hW.1.step hb2), cell_in hb (hW.1.step hb2)⟩))); simp only [Act.put, List.setIfInBounds_toArray, List.set_cons_zero, List.set_cons_succ]; go_big_quiet_on)))
      refine wpQuiet_nil ?_
      rintro w' ⟨i1, f0, f1⟩
      go_wp2
      go_roundw
      case rel => exact ⟨k + 1, by omega, by go_num, by (repeat (first | exact In.refl _ | assumption | apply In.alloc | apply In.drewN | apply In.drew | (refine In.step ?_ (by assumption))))⟩
      case measure => simp [intOf]; omega
    · obtain rfl : k = n := by omega
      go_wp2
      go_ret
      exact Val.mk' rfl (by (repeat (first | exact In.refl _ | assumption | apply In.alloc | apply In.drewN | apply In.drew | (refine In.step ?_ (by assumption)))))
theorem infoSS : (Try.prog.info? 52).map (fun i => (i.zero, i.size)) = some (some (.slice none 0 0), 1) := by kernel_rfl
theorem bytesSS : (Try.prog.info? 52).map (fun i => decide (i.bytes ≤ 64)) = some true := by kernel_rfl
/-- what a call answers that makes a row of rows of its own -/
def RowIntS (xs : List IntSR) (w : World) (e : Ending) (w' : World) : Prop :=
  ∃ g, e = .returned (.slice (some ⟨g, 0, none⟩) xs.length xs.length) ∧ OwnIntS w' g xs.length xs ∧ w.heap.size ≤ g ∧ Below w.heap.size w w'
set_option maxHeartbeats 2000000 in
theorem toIntSS_c (A : Option Addr) (n c : Nat) (xs : List IntSR) (w : World) (hn : (n : Int) ≤ 10000000) (hl : ∀ k, k < n → ((xs.getD k []).length : Int) ≤ 10000000) (hx : ReadsIntS w A n xs) :
    Calls Try.prog 13 #[.slice A n c] w (RowIntS xs w) := by
  obtain ⟨i0, hi0, hz0, hz1⟩ : ∃ i, Try.prog.info? 52 = some i ∧ i.zero = some (.slice none 0 0) ∧ i.size = 1 := by
    have h := infoSS
    cases hh : Try.prog.info? 52 with
    | none => rw [hh] at h; cases h
    | some i => rw [hh] at h; simp at h; exact ⟨i, rfl, h.1, h.2⟩
  have hz2 : i0.bytes ≤ 64 := by
    have h := bytesSS
    rw [hi0] at h
    simpa using h
  have HLEN := Lib.hid hx.1
  have HL := Lib.hid hl
  clear hl
  go_enter Try.func13, Try.ntmps13
  go_wp2_with (at_make; refine wpList_make_full _ rfl (.tmp 6) (.tmp 6) 23 rfl w.heap.size 52 i0 (.slice none 0 0) 1 Try.underlying23 hi0 hz0 hz1 .i64 .i64 (n : Int) (n : Int) n rfl rfl rfl rfl ?h2 ?h3 ?h4 ?_)
  case h2 =>
    have : i0.bytes * n ≤ 64 * n := Nat.mul_le_mul_right _ hz2
    omega
  case h3 => unfold maxLen; omega
  case h4 => exact Nat.le_refl _
  intro w1 hown0 hgrow0
  have hb0 : Below w.heap.size w w1 := (Below.refl _ _).grown hgrow0 (Nat.le_refl _) (fun j hj => by cases hj)
  clear hgrow0
  obtain ⟨cur0, hk0, hs0⟩ : ∃ cur : Array Value, Blk w1 w.heap.size 52 cur ∧ cur.size = n := by
    rcases hown0.2 with ⟨h, _⟩ | ⟨g, cap, cur, h, hg, hh, hnc, hcp, hcs, htake⟩
    · cases h
    · injection h with h1 h2 h3
      injection h1 with h1
      injection h1 with h1
      subst h1 h3
      exact ⟨cur, hh, by omega⟩
  have HS0 := Lib.hid hs0
  have hz0 := hk0.lt
  clear hown0 hs0
  go_wp2
  go_loopw [4] (fun i wr => ∃ (k : Nat) (cur : Array Value) (G : Nat → Nat), k ≤ n ∧ i = .int .i64 k ∧ Blk wr w.heap.size 52 cur ∧ cur.size = n ∧
    (∀ t, t < k → w.heap.size < G t ∧ G t < wr.heap.size ∧ (xs.getD t []).length ≤ 10000000 ∧ cur[t]? = some (.slice (some ⟨G t, 0, none⟩) (xs.getD t []).length (xs.getD t []).length) ∧ OwnInt wr (G t) (xs.getD t []).length (xs.getD t [])) ∧ (∀ t u, t < u → u < k → G t < G u) ∧ Below w.heap.size w wr) (fun i _ => n - (intOf i).toNat)
  case atStart => exact ⟨0, cur0, fun _ => 0, Nat.zero_le _, rfl, hk0, HS0.out, fun t ht => absurd ht (Nat.not_lt_zero _), fun t u _ hu => absurd hu (Nat.not_lt_zero _), hb0⟩
  case round =>
    clear hk0 hb0 HS0 hz0
    obtain ⟨k, cur, G, hk, rfl, hK, hs, hp, hG, hb⟩ := hrel
    have HS := Lib.hid hs
    have HP := Lib.hid hp
    have HG := Lib.hid hG
    clear hs hp hG
    by_cases hlt : k < n
    · obtain ⟨a, rfl, B, c', ha, h1, h2, hnn, hr⟩ := (hx.in_ ⟨hb, hb.size⟩).2 k hlt
      have HLk := Lib.hid (HL.out k hlt)
      generalize hx0 : xs.getD k [] = x at *
      have HX := Lib.hid hx0
      clear hx0 h1 h2 hnn
      have hlen : Hid ((x.length : Int) ≤ 10000000) := HLk
      go_wp2_with fail
      refine (toIntS_c B x.length c' x _ hlen.out hr).mono ?_
      rintro e w2 ⟨g2, rfl, ho2, hg2, hb2⟩
      have hK2 := Blk.step hK hb2
      have hB2 : Below w.heap.size w w2 := hb.trans (hb2.mono hb.size)
      have hkl := hK.lt
      have hg2' : w.heap.size < g2 := Nat.lt_of_lt_of_le hkl hg2
      have ho2l := OwnInt.lt ho2
      obtain ⟨y0, hy0⟩ : ∃ y, w2.cell? ⟨w.heap.size, k, none⟩ = some y := ⟨cur[k]'(by have := HS.out; omega), by rw [hK2.cell]; simp⟩
      have z0 := hK2.frozen k
      have hlt3 := hK2.lt
      have HP2 : Hid (∀ t, t < k → w.heap.size < G t ∧ G t < wr.heap.size ∧ (xs.getD t []).length ≤ 10000000 ∧ cur[t]? = some (.slice (some ⟨G t, 0, none⟩) (xs.getD t []).length (xs.getD t []).length) ∧ OwnInt w2 (G t) (xs.getD t []).length (xs.getD t [])) := Lib.hid fun t ht => by
        obtain ⟨p1, p2, p3, p4, p5⟩ := HP.out t ht
        exact ⟨p1, p2, p3, p4, p5.step hb2⟩
      have HSZ := Lib.hid hg2
      have HSZ2 := Lib.hid hb2.size
      have HO2 := Lib.hid ho2
      have hon : Hid (w2.grownBy (w2.setCell ⟨w.heap.size, k, none⟩ (.slice (some ⟨g2, 0, none⟩) x.length x.length)) (some w.heap.size)) := Lib.hid (only_setCell (only_refl w2 _) (Or.inl rfl) _)
      clear hb2 hb hK HP ho2 hg2
      go_wp2
      go_roundw
      case rel =>
        refine ⟨k + 1, cur.setIfInBounds k (.slice (some ⟨g2, 0, none⟩) x.length x.length), fun t => if t = k then g2 else G t, by omega, by go_num, hK2.set_ _ _, by simp; exact HS.out, fun t ht => ?_, fun t u htu hu => ?_, hB2.setCell (Nat.le_refl _) _⟩
        · have hsz := HS.out
          by_cases e : t = k
          · subst e
            rw [HX.out]
            have := HLk.out
            refine ⟨by simp; exact hg2', by simp; exact ho2l, by omega, by simp [Array.getElem?_setIfInBounds, hsz, hlt], ?_⟩
            simp only [if_true]
            exact HO2.out.only hon.out (by omega)
          · obtain ⟨p1, p2, p3, p4, p5⟩ := HP2.out t (by omega)
            have h3 := HSZ2.out
            simp only [if_neg e]
            refine ⟨p1, by simp; omega, p3, ?_, p5.only hon.out (by omega)⟩
            rw [Array.getElem?_setIfInBounds, if_neg (by omega)]
            exact p4
        · simp only []
          by_cases e : u = k
          · subst e
            rw [if_neg (by omega), if_pos rfl]
            have := (HP2.out t (by omega)).2.1
            have h3 := HSZ.out
            omega
          · rw [if_neg (by omega), if_neg e]
            exact HG.out t u htu (by omega)
      case measure => simp [intOf]; omega
    · obtain rfl : k = n := by omega
      go_wp2
      go_ret
      have hl := HLEN.out
      subst hl
      exact ⟨w.heap.size, rfl, ⟨cur, G, hK, HS.out, rfl, fun t ht => ⟨(HP.out t ht).1, (HP.out t ht).2.2.1, (HP.out t ht).2.2.2.1, (HP.out t ht).2.2.2.2⟩, HG.out⟩, Nat.le_refl _, hb⟩
theorem openIntS {H : Type} {enc : TypeId × Value → H} {w : World} {base : Nat} {held : Bool} {fuel : Nat} {A : Option Addr} {n c : Nat} {x : DataW H × List MemPlace}
    (h : DataW.trod enc Try.prog w base (fun _ => true) held fuel 23 (Value.cells (.slice A n c)).toList = some x) : ∃ zs, n ≤ maxLen ∧ ReadsIntS w A n zs := by
  rcases Deep.open_int_rows Try.underlying23 Try.underlying52 Try.underlying3 (by kernel_rfl) (by kernel_rfl) h with ⟨hcs, _⟩ | ⟨a, len, cap, A', L, C, Z, hcs, hb, hl, hm, hxx, hc⟩
  · simp [Value.cells] at hcs
    obtain ⟨rfl, rfl, rfl⟩ := hcs
    exact ⟨[], Nat.zero_le _, rfl, fun k hk => absurd hk (Nat.not_lt_zero _)⟩
  · simp [Value.cells] at hcs
    obtain ⟨rfl, rfl, rfl⟩ := hcs
    refine ⟨(List.range n).map fun r => (Z r).take (L r), by omega, by simp, fun k hk => ⟨a, rfl, A' k, C k, ?_⟩⟩
    obtain ⟨c1, c2, c3, c4, c5, c6, c7⟩ := hc k (by omega)
    have e : ((List.range n).map fun r => (Z r).take (L r)).getD k [] = (Z k).take (L k) := by simp [List.getD_eq_getElem?_getD, hk]
    have el : ((Z k).take (L k)).length = L k := by rw [List.length_take]; omega
    rw [e, el]
    refine ⟨c1, c2, c3, c6, el, fun i hi => ?_⟩
    cases hA : A' k with
    | none => have := c6 hA; omega
    | some a' =>
      refine ⟨a', rfl, ?_⟩
      rw [(c7 a' hA).2 i (by omega)]
      simp [List.getD_eq_getElem?_getD, hi]
end Go.Proofs.Ytkibabajalajeaa
