/- Chapter 29: windowsOf. -/
import Derived.Test.YtepajjaiakdcfaaO29
namespace Go.Proofs.Ytepajjaiakdcfaa
open Go.ChangeShapes Go.WideShapes Go.ChangeAt Go.RowKit
set_option linter.unusedVariables false
set_option linter.unusedSimpArgs false
set_option maxHeartbeats 2000000

/-- block g holds n windows, the first k known -/
def WinP (w : World) (g n k : Nat) (lo hi : Nat → Int) : Prop := ∃ cur : Array Value, Blk w g 124 cur ∧ cur.size = n * 2 ∧ ∀ t : Nat, t < k → cur[t * 2]? = some (.int .i64 (lo t)) ∧ cur[t * 2 + 1]? = some (.int .i64 (hi t))
section
variable {w w' : World} {g n k : Nat} {lo hi : Nat → Int}
theorem WinP.step (h : WinP w g n k lo hi) (hb : Below w.heap.size w w') : WinP w' g n k lo hi := by
  obtain ⟨cur, hk, r⟩ := h
  exact ⟨cur, hk.step hb, r⟩
theorem WinP.alloc (h : WinP w g n k lo hi) (o : Obj) : WinP (w.alloc o) g n k lo hi := h.step ((Below.refl _ w).alloc (Nat.le_refl _) o)
theorem WinP.drew (h : WinP w g n k lo hi) : WinP w.drew g n k lo hi := h.step (Below.refl _ w).drew
theorem WinP.lt (h : WinP w g n k lo hi) : g < w.heap.size := by
  obtain ⟨cur, hk, r⟩ := h
  exact hk.lt
theorem WinP.cell (h : WinP w g n k lo hi) (t : Nat) (ht : t < k) : w.cell? ⟨g, t * 2, none⟩ = some (.int .i64 (lo t)) ∧ w.cell? ⟨g, t * 2 + 1, none⟩ = some (.int .i64 (hi t)) := by
  obtain ⟨cur, hk, hs, hc⟩ := h
  obtain ⟨h1, h2⟩ := hc t ht
  exact ⟨(hk.cell _).trans h1, (hk.cell _).trans h2⟩
theorem WinP.any (h : WinP w g n k lo hi) (t : Nat) (ht : t < n) : ∃ u v, w.cell? ⟨g, t * 2, none⟩ = some u ∧ w.cell? ⟨g, t * 2 + 1, none⟩ = some v := by
  obtain ⟨cur, hk, hs, hc⟩ := h
  exact ⟨_, _, (hk.cell _).trans (Array.getElem?_eq_getElem (show t * 2 < cur.size by omega)), (hk.cell _).trans (Array.getElem?_eq_getElem (show t * 2 + 1 < cur.size by omega))⟩
theorem WinP.free (h : WinP w g n k lo hi) (j : Nat) : w.frozen? ⟨g, j, none⟩ = false := by
  obtain ⟨cur, hk, r⟩ := h
  exact hk.frozen j
theorem WinP.put (h : WinP w g n k lo hi) (hk : k < n) : WinP ((w.setCell ⟨g, k * 2, none⟩ (.int .i64 (lo k))).setCell ⟨g, k * 2 + 1, none⟩ (.int .i64 (hi k))) g n (k + 1) lo hi := by
  obtain ⟨cur, hb, hs, hc⟩ := h
  refine ⟨_, (hb.set_ (k * 2) (.int .i64 (lo k))).set_ (k * 2 + 1) (.int .i64 (hi k)), by simpa using hs, fun t ht => ?_⟩
  by_cases e : t = k
  · subst e
    constructor
    · rw [Array.getElem?_setIfInBounds_ne (by omega)]
      simp [show t * 2 < cur.size by omega]
    · simp [show t * 2 + 1 < cur.size by omega]
  · obtain ⟨h1, h2⟩ := hc t (by omega)
    constructor
    · rw [Array.getElem?_setIfInBounds_ne (by omega), Array.getElem?_setIfInBounds_ne (by omega)]; exact h1
    · rw [Array.getElem?_setIfInBounds_ne (by omega), Array.getElem?_setIfInBounds_ne (by omega)]; exact h2
end
theorem winP_made {w w1 : World} {n : Nat} {zs : List Value} (hown : w1.ownsRow w.heap.size 124 2 (.slice (some ⟨w.heap.size, 0, none⟩) n n) n zs) (lo hi : Nat → Int) : WinP w1 w.heap.size n 0 lo hi := by
  rcases hown.2 with ⟨h, _⟩ | ⟨g, cap, cur, h, hg, hh, hnc, hcp, hcs, htake⟩
  · cases h
  · injection h with h1 h2 h3
    injection h1 with h1
    injection h1 with h1
    subst h1 h3
    exact ⟨cur, hh, hcs, fun t ht => absurd ht (Nat.not_lt_zero t)⟩
def loW (xs : List FrozenR) (q : Int) (t : Nat) : Int := q - (xs.getD t z29).f0 - (xs.getD t z29).f1
def hiW (xs : List FrozenR) (q : Int) (t : Nat) : Int := q - (xs.getD t z29).f0
def winK (xs : List FrozenR) (q : Int) (i : Nat) : Bool := outB (xs.getD i z29).f0 (xs.getD i z29).f1 q
def winB (n : Nat) (xs : List FrozenR) (q : Int) : Bool := decide (n ≤ 20) && allOk (winK xs q) n
def WinG (n : Nat) (xs : List FrozenR) (q : Int) (w : World) (e : Ending) (w' : World) : Prop :=
  ((winB n xs q = true ∧ ∃ g, w.heap.size ≤ g ∧ e = .returned (.tuple #[.slice (some ⟨g, 0, none⟩) n n, .bool true]) ∧ WinP w' g n n (loW xs q) (hiW xs q)) ∨ (winB n xs q = false ∧ e = .returned (.tuple #[.slice none 0 0, .bool false]))) ∧ Below w.heap.size w w'
theorem infoW : (Try.prog.info? 124).map (fun i => (i.zero, i.size, i.bytes)) = some (some (.agg #[.int .i64 0, .int .i64 0]), 2, 16) := by kernel_rfl
set_option maxRecDepth 20000 in
set_option maxHeartbeats 8000000 in
theorem iwindowsOf (A : Option Addr) (n c : Nat) (xs : List FrozenR) (q : Int) (w : World) (hn : n ≤ maxLen) (hx : ReadsFrozen w A n xs) : Calls Try.prog 93 #[.slice A n c, .int .i64 q] w (WinG n xs q w) := by
  obtain ⟨i0, hi0, hz0, hz1, hz2⟩ := info_parts infoW
  unfold maxLen at hn
  by_cases h20 : n ≤ 20
  case neg =>
    have h20' : (20 : Int) < (n : Int) := by omega
    have HV : Hid (winB n xs q = false) := Lib.hid (by simp [winB, h20])
    go_enter Try.func93, Try.ntmps93
    go_wp2
    exact bodyPost_ret (v := .tuple #[.slice none 0 0, .bool false]) (by simp [results, Try.results93, go_sem]) rfl ⟨.inr ⟨HV.out, rfl⟩, (In.refl w).below⟩
  have h20' : ¬ (20 : Int) < (n : Int) := by omega
  have HX := Lib.hid hx
  clear hx
  go_enter Try.func93, Try.ntmps93
  go_wp2_with (at_make; refine wpList_make_full _ rfl (.tmp 15) (.tmp 15) 119 rfl w.heap.size 124 i0 (.agg #[.int .i64 0, .int .i64 0]) 2 Try.underlying119 hi0 hz0 hz1 .i64 .i64 (n : Int) (n : Int) n rfl rfl rfl rfl ?h2 ?h3 ?h4 ?_)
  case h2 => first | omega | (rw [hz2]; omega)
  case h3 => unfold maxLen; omega
  intro w1 hown1 hgrow1
  have hb1 : Below w.heap.size w w1 := (Below.refl _ _).grown hgrow1 (Nat.le_refl _) (fun j hj => by cases hj)
  have hN1 : WinP w1 w.heap.size n 0 (loW xs q) (hiW xs q) := winP_made hown1 _ _
  have hI1 := (In.refl w).step hb1
  clear hown1 hgrow1 hb1
  obtain ⟨g, hg⟩ : ∃ g, w.heap.size = g := ⟨_, rfl⟩
  rw [hg] at hN1 ⊢
  have hgw : w.heap.size ≤ g := by omega
  clear hg
  go_wp2
  go_loopw [7, 8, 9, 10, 19] (fun a7 a8 a9 a10 i wr => ∃ k : Nat, k ≤ n ∧ i = .int .i64 k ∧ (∀ i, i < k → winK xs q i = true) ∧ WinP wr g n k (loW xs q) (hiW xs q) ∧ In w.heap.size w wr) (fun _ _ _ _ i _ => n - (intOf i).toNat)
  case atStart => exact ⟨0, Nat.zero_le _, rfl, fun i hi => absurd hi (Nat.not_lt_zero _), hN1, hI1⟩
  case round =>
    clear hN1 hI1
    obtain ⟨k, hk, rfl, ho, hN, hi⟩ := hrel
    have HO := Lib.hid ho
    clear ho
    by_cases hlt : k < n
    · obtain ⟨ad, rfl, ha0, ha1⟩ := (HX.out.in_ hi).2 k hlt
      have HK : Hid (winK xs q k = outB (xs.getD k z29).f0 (xs.getD k z29).f1 q) := Lib.hid rfl
      have HL : Hid (loW xs q k = q - (xs.getD k z29).f0 - (xs.getD k z29).f1) := Lib.hid rfl
      have HH : Hid (hiW xs q k = q - (xs.getD k z29).f0) := Lib.hid rfl
      generalize xs.getD k z29 = x at ha0 ha1 HK HL HH
      obtain ⟨x0, x1⟩ := x
      simp only at ha0 ha1 HK HL HH
      go_wp2_with fail
      refine (ioutAt x0 x1 q _).mono ?_
      rintro _ w2 ⟨rfl, hb2⟩
      have hN2 := (hN.alloc (.cells #[.int .i64 x0, .int .i64 x1] 113)).step hb2
      have hI2 := (hi.alloc (.cells #[.int .i64 x0, .int .i64 x1] 113)).step hb2
      clear hb2 hN hi ha0 ha1
      cases h1 : outB x0 x1 q
      · have HV : Hid (winV x0 x1 q = .tuple #[.agg #[.int .i64 0, .int .i64 0], .bool false]) := Lib.hid (by simp [winV, h1])
        have hwk : winK xs q k = false := by rw [HK.out]; exact h1
        have HF : Hid (winB n xs q = false) := Lib.hid (by simp [winB, allOk_f _ _ k hlt hwk])
        rw [HV.out]
        go_wp2
        exact bodyPost_ret (v := .tuple #[.slice none 0 0, .bool false]) (by simp [results, Try.results93, go_sem]) rfl ⟨.inr ⟨HF.out, rfl⟩, (hI2.alloc _).below⟩
      have HV : Hid (winV x0 x1 q = .tuple #[.agg #[.int .i64 (q - x0 - x1), .int .i64 (q - x0)], .bool true]) := Lib.hid (by simp [winV, h1])
      have HT : Hid (winK xs q k = true) := Lib.hid (by rw [HK.out]; exact h1)
      rw [HV.out]
      obtain ⟨u0, u1, cu0, cu1⟩ := hN2.any k hlt
      have z0 := hN2.free (k * 2)
      have z1 := hN2.free (k * 2 + 1)
      have hgl := hN2.lt
      have hgne : g ≠ w2.heap.size := by omega
      have hN3 := hN2.put hlt
      rw [HL.out, HH.out] at hN3
      have hI3 := (hI2.set_ (p := ⟨g, k * 2, none⟩) hgw (.int .i64 (q - x0 - x1))).set_ (p := ⟨g, k * 2 + 1, none⟩) hgw (.int .i64 (q - x0))
      have HN3 := Lib.hid hN3
      have HI3 := Lib.hid hI3
      clear hN3 hI3 hN2 hI2
      go_wp2
      go_roundw
      case rel => exact ⟨k + 1, by omega, by go_num, fun i hi => by
            by_cases e : i = k
            · subst e; exact HT.out
            · exact HO.out i (by omega), HN3.out.alloc _, HI3.out.alloc _⟩
      case measure => simp [intOf]; omega
    · obtain rfl : n = k := by omega
      have HV : Hid (winB n xs q = true) := Lib.hid (by simp [winB, allOk_t _ _ HO.out, h20])
      go_wp2
      exact bodyPost_ret (v := .tuple #[.slice (some ⟨g, 0, none⟩) n n, .bool true]) (by simp [results, Try.results93, go_sem]) rfl ⟨.inl ⟨HV.out, g, hgw, rfl, hN⟩, hi.below⟩
end Go.Proofs.Ytepajjaiakdcfaa
