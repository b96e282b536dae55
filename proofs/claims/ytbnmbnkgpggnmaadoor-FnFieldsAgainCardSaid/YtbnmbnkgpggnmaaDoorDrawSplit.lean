/- The drawn lines. -/
import Derived.Test.YtbnmbnkgpggnmaaDoorNumber
import Derived.Test.YtbnmbnkgpggnmaaDoorText
import Derived.Laws.Concat
namespace Go.Proofs.YtbnmbnkgpggnmaaDoor
open Go.ChangeShapes Go.WideShapes Go.ChangeAt Go.RowKit
set_option linter.unusedVariables false

/-- an element of a list of texts -/
def GotS (xs : List ByteArray) (B g : Nat) (W0 : World) (e : Ending) (w' : World) : Prop := ∃ s : ByteArray, s ∈ xs ∧ e = .returned (.string s) ∧ St B g W0 w'

theorem pickS_s (xs : List ByteArray) (b n cap : Nat) (B g : Nat) (W0 w : World) (h0 : 0 < n) (h1 : n ≤ 1000) (hl : xs.length = n) (hc : ∀ i, i < n → w.cell? ⟨b, i, none⟩ = some (.string (xs.getD i ByteArray.empty))) (hbg : b ≠ g) (hbw : b < w.heap.size) (h : St B g W0 w) :
    Calls Tryd.prog 30 #[.pointer (some ⟨g, 0, none⟩), .slice (some ⟨b, 0, none⟩) n cap] w (GotS xs B g W0) := by
  go_enter Tryd.func30, Tryd.ntmps30
  go_wp2_with fail
  refine (below_s n B g w _ (by omega) (by omega) ⟨h.1, only_refl _ _⟩).mono ?_
  rintro e w1 ⟨x, ⟨hx0, hx1⟩, rfl, hs⟩
  obtain ⟨k, rfl⟩ : ∃ k : Nat, x = k := ⟨x.toNat, by omega⟩
  have hk : w1.cell? ⟨b, k, none⟩ = some (.string (xs.getD k ByteArray.empty)) := (World.cell?_of_block (hs.2.block b hbw (fun e => hbg (by injection e)))).trans (hc k (by omega))
  have hm : xs.getD k ByteArray.empty ∈ xs := by rw [List.getD_eq_getElem?_getD, List.getElem?_eq_getElem (by omega)]; exact List.getElem_mem _
  generalize xs.getD k ByteArray.empty = y at hk hm
  have HM := Lib.hid hm
  clear hm
  go_wp2_with fail
  go_ret
  exact ⟨_, HM.out, rfl, hs.1, only_trans h.2 hs.2⟩

theorem pickNewS_s (xs : List ByteArray) (cs : Array Value) (n : Nat) (B g : Nat) (W0 w : World) (h0 : 0 < n) (h1 : n ≤ 1000) (hl : xs.length = n) (hcs : cs = (xs.map Value.string).toArray) (h : St B g W0 w) :
    Calls Tryd.prog 30 #[.pointer (some ⟨g, 0, none⟩), .slice (some ⟨w.heap.size, 0, none⟩) n n] (w.alloc (.cells cs 9)) (GotS xs B g W0) := by
  have hg := h.1.lt
  subst hcs
  exact pickS_s xs w.heap.size n n B g W0 _ h0 h1 hl (fun i hi => by
    rw [(Blk.new w 9 (xs.map Value.string).toArray).cell i]
    simp [show i < xs.length from by omega]) (by omega) (by simp) (h.alloc _)

theorem cat_run {P : Program} (a b : ByteArray) (ha : (a.size : Int) ≤ 100000) (hb : (b.size : Int) ≤ 100000) (W : World) : (Op.stringOp .add a b).run P W = .ok (.string (a ++ b)) W :=
  run_string_add_sum W a b (by omega)
theorem cat_size (a b : ByteArray) : (a ++ b).size = a.size + b.size := by simp

def sixTexts : List ByteArray := [⟨#[32]⟩, ⟨#[32, 32]⟩, ⟨#[9]⟩, ⟨#[10]⟩, ⟨#[127]⟩, ⟨#[233]⟩]
theorem six_size : ∀ s ∈ sixTexts, s.size ≤ 2 := by
  intro s hs
  have h : sixTexts.all (fun s => decide (s.size ≤ 2)) = true := by decide +kernel
  simpa using (List.all_eq_true.1 h) s hs

theorem u8_33 (x : Int) (h0 : 0 ≤ x) (h1 : x < 94) : IntKind.u8.wrap (33 + x) = ((UInt8.ofNat (33 + x.toNat)).toNat : Int) := by
  rw [IntWalk.u8_in _ (by omega)]
  simp [UInt8.toNat_ofNat']; omega

theorem conv_oneB {P : Program} (b : UInt8) (src dst e : TypeId) (hs : P.underlying src = some (.slice e)) (he : P.underlying e = some (.int .u8)) (hd : P.underlying dst = some .string) (W : World) :
    (convert src dst (.slice (some ⟨W.heap.size, 0, none⟩) 1 1)).run P (W.alloc (.cells #[.int .u8 (b.toNat : Int)] e)) = .ok (.string ⟨#[b]⟩) (W.alloc (.cells #[.int .u8 (b.toNat : Int)] e)) :=
  run_convert_bytes_back _ src dst e ⟨W.heap.size, 0, none⟩ 1 [b] hs he hd fun j hj => by
    have : j = 0 := by simpa using hj
    subst this
    exact (Blk.new W e #[.int .u8 (b.toNat : Int)]).cell 0

/-- some text of at most m bytes -/
def SomeText (m : Int) (w : World) (e : Ending) (w' : World) : Prop := ∃ s : ByteArray, (s.size : Int) ≤ m ∧ e = .returned (.string s) ∧ Below w.heap.size w w'

set_option maxHeartbeats 4000000 in
theorem drawSplitFields (a : Option Addr) (len cap : Nat) (w : World) (hb : Bytes w w.heap.size a len) :
    Calls Tryd.prog 15 #[.slice a len cap] w (SomeText 2000 w) := by
  go_enter Tryd.func15, Tryd.ntmps15
  go_wp2_with fail
  refine (new_s a len cap w hb).mono ?_
  rintro e w1 ⟨rfl, hc1, hb1⟩
  have hs1 : St w.heap.size w.heap.size w1 w1 := ⟨hc1, only_refl _ _⟩
  go_wp2_with fail
  refine (below_s 9 _ _ _ _ (by omega) (by omega) hs1).mono ?_
  rintro e w2 ⟨x9, ⟨hx0, hx1⟩, rfl, hs2⟩
  go_wp2_with fail
  refine (once_s 15 _ _ _ _ (by omega) (by omega) hs2).mono ?_
  rintro e w3 ⟨b, rfl, hs3⟩
  cases b
  · clear hs2
    go_wp2_with fail
    go_loopw [5, 6] (fun v i wr => ∃ (k : Nat) (S : ByteArray), (k : Int) ≤ x9 ∧ i = .int .i64 k ∧ v = .string S ∧ (S.size : Int) ≤ 9 * k ∧ St w.heap.size w.heap.size w1 wr) (fun _ i _ => (x9 - intOf i).toNat)
    case atStart => exact ⟨0, ⟨#[]⟩, by omega, rfl, rfl, by show ((0 : Nat) : Int) ≤ _; omega, hs3⟩
    case round =>
      obtain ⟨k, S, hk, rfl, rfl, hS, hsr⟩ := hrel
      by_cases hkN : (k : Int) < x9
      · by_cases hk0 : 0 < (k : Int)
        · have hsp := hsr
          clear hsr
          go_wp2_with fail
          refine (below_s 2 _ _ _ _ (by omega) (by omega) hsp).mono ?_
          rintro e wc ⟨x2, ⟨hx20, hx21⟩, rfl, hsc⟩
          go_wp2_with fail
          refine (below_s 3 _ _ _ _ (by omega) (by omega) hsc).mono ?_
          rintro e wd ⟨x3, ⟨hx30, hx31⟩, rfl, hsd⟩
          have hmul : 0 ≤ x2 * x3 ∧ x2 * x3 ≤ 2 := by
            rcases (show x2 = 0 ∨ x2 = 1 from by omega) with h | h <;> rw [h] <;> omega
          obtain ⟨hmul0, hmul1⟩ := hmul
          go_wp2_with fail
          refine (long_i (1 + x2 * x3) 32 _ (by omega) (by omega) (by omega) (by omega)).mono ?_
          rintro e wf ⟨T, hT, rfl, hbf⟩
          have hsr := hsd.below hbf
          have hadd := fun W => cat_run (P := Tryd.prog) S T (by omega) (by omega) W
          have hsz := cat_size S T
          obtain ⟨S1, hS1⟩ : ∃ S1, S1 = S ++ T := ⟨_, rfl⟩
          rw [← hS1] at hadd hsz
          have hS1b : (S1.size : Int) ≤ 9 * k + 3 := by omega
          have HS1 := Lib.hid hS1
          have HT := Lib.hid hT
          clear hS1 hT hsz
          go_wp2_with fail
          clear hadd
          obtain ⟨wo, rfl⟩ : ∃ wo : World, wo = wf := ⟨_, rfl⟩
          go_loopw [5, 7] (fun v j wq => ∃ (m : Nat) (S2 : ByteArray), m ≤ 5 ∧ j = .int .i64 m ∧ v = .string S2 ∧ (S2.size : Int) ≤ 9 * k + 3 + m ∧ St w.heap.size w.heap.size w1 wq) (fun _ j _ => 5 - (intOf j).toNat)
          case atStart => exact ⟨0, S1, by omega, rfl, rfl, by omega, hsr⟩
          case round =>
            obtain ⟨m, S2, hm, rfl, rfl, hS2, hsq⟩ := hrel
            go_wp2_with fail
            refine (below_s 5 _ _ _ _ (by omega) (by omega) hsq).mono ?_
            rintro e wa ⟨y, ⟨hy0, hy1⟩, rfl, hsa⟩
            by_cases hle : (m : Int) ≤ y
            · go_wp2_with fail
              refine (below_s 94 _ _ _ _ (by omega) (by omega) hsa).mono ?_
              rintro e wb ⟨z, ⟨hz0, hz1⟩, rfl, hsb⟩
              obtain ⟨bb, hbb⟩ : ∃ bb : UInt8, IntKind.u8.wrap (33 + z) = (bb.toNat : Int) := ⟨_, u8_33 z hz0 hz1⟩
              have hcv := fun W => conv_oneB (P := Tryd.prog) bb 22 9 5 Tryd.underlying22 Tryd.underlying5 Tryd.underlying9 W
              have hadd := fun W => cat_run (P := Tryd.prog) S2 ⟨#[bb]⟩ (by omega) (by show ((1 : Nat) : Int) ≤ _; omega) W
              have hsz := cat_size S2 ⟨#[bb]⟩
              have hone : (⟨#[bb]⟩ : ByteArray).size = 1 := rfl
              rw [hone] at hsz
              generalize S2 ++ (⟨#[bb]⟩ : ByteArray) = S3 at *
              have HSZ := Lib.hid hsz
              have hsc := hsb.alloc (.cells #[.int .u8 (bb.toNat : Int)] 5)
              clear hsz hone
              go_wp2_with fail
              have HC := Lib.hid hcv
              clear hcv hadd hbb
              go_roundw
              case rel => exact ⟨m + 1, S3, by omega, by go_num, rfl, by have := HSZ.out; omega, hsc⟩
              case measure => simp [intOf]; omega
            · go_wp2_with fail
              go_roundw
              case rel => exact ⟨k + 1, S2, by omega, by go_num, rfl, by omega, hsa⟩
              case measure => simp [intOf]; omega
        · go_wp2_with fail
          refine (once_s 5 _ _ _ _ (by omega) (by omega) hsr).mono ?_
          rintro e wg ⟨bo, rfl, hsg⟩
          clear hsr
          cases bo
          · obtain ⟨S1, hS1⟩ : ∃ S1, S1 = S := ⟨_, rfl⟩
            subst hS1
            have hS1b : (S1.size : Int) ≤ 9 * k + 3 := by omega
            have hsr := hsg
            clear hsg
            go_wp2_with fail
            obtain ⟨wo, rfl⟩ : ∃ wo : World, wo = wg := ⟨_, rfl⟩
            go_loopw [5, 7] (fun v j wq => ∃ (m : Nat) (S2 : ByteArray), m ≤ 5 ∧ j = .int .i64 m ∧ v = .string S2 ∧ (S2.size : Int) ≤ 9 * k + 3 + m ∧ St w.heap.size w.heap.size w1 wq) (fun _ j _ => 5 - (intOf j).toNat)
            case atStart => exact ⟨0, S1, by omega, rfl, rfl, by omega, hsr⟩
            case round =>
              obtain ⟨m, S2, hm, rfl, rfl, hS2, hsq⟩ := hrel
              go_wp2_with fail
              refine (below_s 5 _ _ _ _ (by omega) (by omega) hsq).mono ?_
              rintro e wa ⟨y, ⟨hy0, hy1⟩, rfl, hsa⟩
              by_cases hle : (m : Int) ≤ y
              · go_wp2_with fail
                refine (below_s 94 _ _ _ _ (by omega) (by omega) hsa).mono ?_
                rintro e wb ⟨z, ⟨hz0, hz1⟩, rfl, hsb⟩
                obtain ⟨bb, hbb⟩ : ∃ bb : UInt8, IntKind.u8.wrap (33 + z) = (bb.toNat : Int) := ⟨_, u8_33 z hz0 hz1⟩
                have hcv := fun W => conv_oneB (P := Tryd.prog) bb 22 9 5 Tryd.underlying22 Tryd.underlying5 Tryd.underlying9 W
                have hadd := fun W => cat_run (P := Tryd.prog) S2 ⟨#[bb]⟩ (by omega) (by show ((1 : Nat) : Int) ≤ _; omega) W
                have hsz := cat_size S2 ⟨#[bb]⟩
                have hone : (⟨#[bb]⟩ : ByteArray).size = 1 := rfl
                rw [hone] at hsz
                generalize S2 ++ (⟨#[bb]⟩ : ByteArray) = S3 at *
                have HSZ := Lib.hid hsz
                have hsc := hsb.alloc (.cells #[.int .u8 (bb.toNat : Int)] 5)
                clear hsz hone
                go_wp2_with fail
                have HC := Lib.hid hcv
                clear hcv hadd hbb
                go_roundw
                case rel => exact ⟨m + 1, S3, by omega, by go_num, rfl, by have := HSZ.out; omega, hsc⟩
                case measure => simp [intOf]; omega
              · go_wp2_with fail
                go_roundw
                case rel => exact ⟨k + 1, S2, by omega, by go_num, rfl, by omega, hsa⟩
                case measure => simp [intOf]; omega
          · have hsp := hsg
            clear hsg
            go_wp2_with fail
            refine (below_s 2 _ _ _ _ (by omega) (by omega) hsp).mono ?_
            rintro e wc ⟨x2, ⟨hx20, hx21⟩, rfl, hsc⟩
            go_wp2_with fail
            refine (below_s 3 _ _ _ _ (by omega) (by omega) hsc).mono ?_
            rintro e wd ⟨x3, ⟨hx30, hx31⟩, rfl, hsd⟩
            have hmul : 0 ≤ x2 * x3 ∧ x2 * x3 ≤ 2 := by
              rcases (show x2 = 0 ∨ x2 = 1 from by omega) with h | h <;> rw [h] <;> omega
            obtain ⟨hmul0, hmul1⟩ := hmul
            go_wp2_with fail
            refine (long_i (1 + x2 * x3) 32 _ (by omega) (by omega) (by omega) (by omega)).mono ?_
            rintro e wf ⟨T, hT, rfl, hbf⟩
            have hsr := hsd.below hbf
            have hadd := fun W => cat_run (P := Tryd.prog) S T (by omega) (by omega) W
            have hsz := cat_size S T
            obtain ⟨S1, hS1⟩ : ∃ S1, S1 = S ++ T := ⟨_, rfl⟩
            rw [← hS1] at hadd hsz
            have hS1b : (S1.size : Int) ≤ 9 * k + 3 := by omega
            have HS1 := Lib.hid hS1
            have HT := Lib.hid hT
            clear hS1 hT hsz
            go_wp2_with fail
            clear hadd
            obtain ⟨wo, rfl⟩ : ∃ wo : World, wo = wf := ⟨_, rfl⟩
            go_loopw [5, 7] (fun v j wq => ∃ (m : Nat) (S2 : ByteArray), m ≤ 5 ∧ j = .int .i64 m ∧ v = .string S2 ∧ (S2.size : Int) ≤ 9 * k + 3 + m ∧ St w.heap.size w.heap.size w1 wq) (fun _ j _ => 5 - (intOf j).toNat)
            case atStart => exact ⟨0, S1, by omega, rfl, rfl, by omega, hsr⟩
            case round =>
              obtain ⟨m, S2, hm, rfl, rfl, hS2, hsq⟩ := hrel
              go_wp2_with fail
              refine (below_s 5 _ _ _ _ (by omega) (by omega) hsq).mono ?_
              rintro e wa ⟨y, ⟨hy0, hy1⟩, rfl, hsa⟩
              by_cases hle : (m : Int) ≤ y
              · go_wp2_with fail
                refine (below_s 94 _ _ _ _ (by omega) (by omega) hsa).mono ?_
                rintro e wb ⟨z, ⟨hz0, hz1⟩, rfl, hsb⟩
                obtain ⟨bb, hbb⟩ : ∃ bb : UInt8, IntKind.u8.wrap (33 + z) = (bb.toNat : Int) := ⟨_, u8_33 z hz0 hz1⟩
                have hcv := fun W => conv_oneB (P := Tryd.prog) bb 22 9 5 Tryd.underlying22 Tryd.underlying5 Tryd.underlying9 W
                have hadd := fun W => cat_run (P := Tryd.prog) S2 ⟨#[bb]⟩ (by omega) (by show ((1 : Nat) : Int) ≤ _; omega) W
                have hsz := cat_size S2 ⟨#[bb]⟩
                have hone : (⟨#[bb]⟩ : ByteArray).size = 1 := rfl
                rw [hone] at hsz
                generalize S2 ++ (⟨#[bb]⟩ : ByteArray) = S3 at *
                have HSZ := Lib.hid hsz
                have hsc := hsb.alloc (.cells #[.int .u8 (bb.toNat : Int)] 5)
                clear hsz hone
                go_wp2_with fail
                have HC := Lib.hid hcv
                clear hcv hadd hbb
                go_roundw
                case rel => exact ⟨m + 1, S3, by omega, by go_num, rfl, by have := HSZ.out; omega, hsc⟩
                case measure => simp [intOf]; omega
              · go_wp2_with fail
                go_roundw
                case rel => exact ⟨k + 1, S2, by omega, by go_num, rfl, by omega, hsa⟩
                case measure => simp [intOf]; omega
      · have hkN2 : x9 ≤ (k : Int) := by omega
        clear hkN
        go_wp2_with fail
        refine (below_s 12 _ _ _ _ (by omega) (by omega) hsr).mono ?_
        rintro e wc ⟨y, ⟨hy0, hy1⟩, rfl, hsc⟩
        rcases (show y = 0 ∨ y = 1 ∨ 1 < y from by omega) with rfl | rfl | hy
        · go_wp2_with fail
          refine (pickNewS_s sixTexts _ 6 _ _ _ _ (by omega) (by omega) rfl rfl hsc).mono ?_
          rintro e wd ⟨T, hT, rfl, hsd⟩
          have hT2 := six_size T hT
          have hadd := fun W => cat_run (P := Tryd.prog) S T (by omega) (by omega) W
          have hsz := cat_size S T
          generalize S ++ T = S1 at *
          have HSZ := Lib.hid hsz
          have HT := Lib.hid hT
          clear hsz hT
          go_wp2_with fail
          go_ret
          exact ⟨S1, by have := HSZ.out; omega, rfl, hsd.fin rfl hb1 (Nat.le_refl _)⟩
        · by_cases hlt : (S.size : Int) < 600
          · go_wp2_with fail
            refine (below_s 2 _ _ _ _ (by omega) (by omega) hsc).mono ?_
            rintro e wd ⟨x2, ⟨hx20, hx21⟩, rfl, hsd⟩
            go_wp2_with fail
            refine (long_i (600 - (S.size : Int) + x2) 32 _ (by omega) (by omega) (by omega) (by omega)).mono ?_
            rintro e wf ⟨T, hT, rfl, hbf⟩
            have hse := hsd.below hbf
            have hadd := fun W => cat_run (P := Tryd.prog) S T (by omega) (by omega) W
            have hsz := cat_size S T
            generalize S ++ T = S1 at *
            have HSZ := Lib.hid hsz
            have HT := Lib.hid hT
            clear hsz hT
            go_wp2_with fail
            go_ret
            exact ⟨S1, by have := HSZ.out; have := HT.out; omega, rfl, hse.fin rfl hb1 (Nat.le_refl _)⟩
          · exfalso; omega
        · go_wp2_with fail
          go_ret
          exact ⟨S, by omega, rfl, hsc.fin rfl hb1 (Nat.le_refl _)⟩
  · clear hs2
    go_wp2_with fail
    refine (below_s 2 _ _ _ _ (by omega) (by omega) hs3).mono ?_
    rintro e w4 ⟨x2, ⟨hx20, hx21⟩, rfl, hs4⟩
    clear hs3
    go_wp2_with fail
    go_loopw [5, 6] (fun v i wr => ∃ (k : Nat) (S : ByteArray), (k : Int) ≤ (24 + x2) ∧ i = .int .i64 k ∧ v = .string S ∧ (S.size : Int) ≤ 9 * k ∧ St w.heap.size w.heap.size w1 wr) (fun _ i _ => ((24 + x2) - intOf i).toNat)
    case atStart => exact ⟨0, ⟨#[]⟩, by omega, rfl, rfl, by show ((0 : Nat) : Int) ≤ _; omega, hs4⟩
    case round =>
      obtain ⟨k, S, hk, rfl, rfl, hS, hsr⟩ := hrel
      by_cases hkN : (k : Int) < (24 + x2)
      · by_cases hk0 : 0 < (k : Int)
        · have hsp := hsr
          clear hsr
          go_wp2_with fail
          refine (below_s 2 _ _ _ _ (by omega) (by omega) hsp).mono ?_
          rintro e wc ⟨x2, ⟨hx20, hx21⟩, rfl, hsc⟩
          go_wp2_with fail
          refine (below_s 3 _ _ _ _ (by omega) (by omega) hsc).mono ?_
          rintro e wd ⟨x3, ⟨hx30, hx31⟩, rfl, hsd⟩
          have hmul : 0 ≤ x2 * x3 ∧ x2 * x3 ≤ 2 := by
            rcases (show x2 = 0 ∨ x2 = 1 from by omega) with h | h <;> rw [h] <;> omega
          obtain ⟨hmul0, hmul1⟩ := hmul
          go_wp2_with fail
          refine (long_i (1 + x2 * x3) 32 _ (by omega) (by omega) (by omega) (by omega)).mono ?_
          rintro e wf ⟨T, hT, rfl, hbf⟩
          have hsr := hsd.below hbf
          have hadd := fun W => cat_run (P := Tryd.prog) S T (by omega) (by omega) W
          have hsz := cat_size S T
          obtain ⟨S1, hS1⟩ : ∃ S1, S1 = S ++ T := ⟨_, rfl⟩
          rw [← hS1] at hadd hsz
          have hS1b : (S1.size : Int) ≤ 9 * k + 3 := by omega
          have HS1 := Lib.hid hS1
          have HT := Lib.hid hT
          clear hS1 hT hsz
          go_wp2_with fail
          clear hadd
          obtain ⟨wo, rfl⟩ : ∃ wo : World, wo = wf := ⟨_, rfl⟩
          go_loopw [5, 7] (fun v j wq => ∃ (m : Nat) (S2 : ByteArray), m ≤ 5 ∧ j = .int .i64 m ∧ v = .string S2 ∧ (S2.size : Int) ≤ 9 * k + 3 + m ∧ St w.heap.size w.heap.size w1 wq) (fun _ j _ => 5 - (intOf j).toNat)
          case atStart => exact ⟨0, S1, by omega, rfl, rfl, by omega, hsr⟩
          case round =>
            obtain ⟨m, S2, hm, rfl, rfl, hS2, hsq⟩ := hrel
            go_wp2_with fail
            refine (below_s 5 _ _ _ _ (by omega) (by omega) hsq).mono ?_
            rintro e wa ⟨y, ⟨hy0, hy1⟩, rfl, hsa⟩
            by_cases hle : (m : Int) ≤ y
            · go_wp2_with fail
              refine (below_s 94 _ _ _ _ (by omega) (by omega) hsa).mono ?_
              rintro e wb ⟨z, ⟨hz0, hz1⟩, rfl, hsb⟩
              obtain ⟨bb, hbb⟩ : ∃ bb : UInt8, IntKind.u8.wrap (33 + z) = (bb.toNat : Int) := ⟨_, u8_33 z hz0 hz1⟩
              have hcv := fun W => conv_oneB (P := Tryd.prog) bb 22 9 5 Tryd.underlying22 Tryd.underlying5 Tryd.underlying9 W
              have hadd := fun W => cat_run (P := Tryd.prog) S2 ⟨#[bb]⟩ (by omega) (by show ((1 : Nat) : Int) ≤ _; omega) W
              have hsz := cat_size S2 ⟨#[bb]⟩
              have hone : (⟨#[bb]⟩ : ByteArray).size = 1 := rfl
              rw [hone] at hsz
              generalize S2 ++ (⟨#[bb]⟩ : ByteArray) = S3 at *
              have HSZ := Lib.hid hsz
              have hsc := hsb.alloc (.cells #[.int .u8 (bb.toNat : Int)] 5)
              clear hsz hone
              go_wp2_with fail
              have HC := Lib.hid hcv
              clear hcv hadd hbb
              go_roundw
              case rel => exact ⟨m + 1, S3, by omega, by go_num, rfl, by have := HSZ.out; omega, hsc⟩
              case measure => simp [intOf]; omega
            · go_wp2_with fail
              go_roundw
              case rel => exact ⟨k + 1, S2, by omega, by go_num, rfl, by omega, hsa⟩
              case measure => simp [intOf]; omega
        · go_wp2_with fail
          refine (once_s 5 _ _ _ _ (by omega) (by omega) hsr).mono ?_
          rintro e wg ⟨bo, rfl, hsg⟩
          clear hsr
          cases bo
          · obtain ⟨S1, hS1⟩ : ∃ S1, S1 = S := ⟨_, rfl⟩
            subst hS1
            have hS1b : (S1.size : Int) ≤ 9 * k + 3 := by omega
            have hsr := hsg
            clear hsg
            go_wp2_with fail
            obtain ⟨wo, rfl⟩ : ∃ wo : World, wo = wg := ⟨_, rfl⟩
            go_loopw [5, 7] (fun v j wq => ∃ (m : Nat) (S2 : ByteArray), m ≤ 5 ∧ j = .int .i64 m ∧ v = .string S2 ∧ (S2.size : Int) ≤ 9 * k + 3 + m ∧ St w.heap.size w.heap.size w1 wq) (fun _ j _ => 5 - (intOf j).toNat)
            case atStart => exact ⟨0, S1, by omega, rfl, rfl, by omega, hsr⟩
            case round =>
              obtain ⟨m, S2, hm, rfl, rfl, hS2, hsq⟩ := hrel
              go_wp2_with fail
              refine (below_s 5 _ _ _ _ (by omega) (by omega) hsq).mono ?_
              rintro e wa ⟨y, ⟨hy0, hy1⟩, rfl, hsa⟩
              by_cases hle : (m : Int) ≤ y
              · go_wp2_with fail
                refine (below_s 94 _ _ _ _ (by omega) (by omega) hsa).mono ?_
                rintro e wb ⟨z, ⟨hz0, hz1⟩, rfl, hsb⟩
                obtain ⟨bb, hbb⟩ : ∃ bb : UInt8, IntKind.u8.wrap (33 + z) = (bb.toNat : Int) := ⟨_, u8_33 z hz0 hz1⟩
                have hcv := fun W => conv_oneB (P := Tryd.prog) bb 22 9 5 Tryd.underlying22 Tryd.underlying5 Tryd.underlying9 W
                have hadd := fun W => cat_run (P := Tryd.prog) S2 ⟨#[bb]⟩ (by omega) (by show ((1 : Nat) : Int) ≤ _; omega) W
                have hsz := cat_size S2 ⟨#[bb]⟩
                have hone : (⟨#[bb]⟩ : ByteArray).size = 1 := rfl
                rw [hone] at hsz
                generalize S2 ++ (⟨#[bb]⟩ : ByteArray) = S3 at *
                have HSZ := Lib.hid hsz
                have hsc := hsb.alloc (.cells #[.int .u8 (bb.toNat : Int)] 5)
                clear hsz hone
                go_wp2_with fail
                have HC := Lib.hid hcv
                clear hcv hadd hbb
                go_roundw
                case rel => exact ⟨m + 1, S3, by omega, by go_num, rfl, by have := HSZ.out; omega, hsc⟩
                case measure => simp [intOf]; omega
              · go_wp2_with fail
                go_roundw
                case rel => exact ⟨k + 1, S2, by omega, by go_num, rfl, by omega, hsa⟩
                case measure => simp [intOf]; omega
          · have hsp := hsg
            clear hsg
            go_wp2_with fail
            refine (below_s 2 _ _ _ _ (by omega) (by omega) hsp).mono ?_
            rintro e wc ⟨x2, ⟨hx20, hx21⟩, rfl, hsc⟩
            go_wp2_with fail
            refine (below_s 3 _ _ _ _ (by omega) (by omega) hsc).mono ?_
            rintro e wd ⟨x3, ⟨hx30, hx31⟩, rfl, hsd⟩
            have hmul : 0 ≤ x2 * x3 ∧ x2 * x3 ≤ 2 := by
              rcases (show x2 = 0 ∨ x2 = 1 from by omega) with h | h <;> rw [h] <;> omega
            obtain ⟨hmul0, hmul1⟩ := hmul
            go_wp2_with fail
            refine (long_i (1 + x2 * x3) 32 _ (by omega) (by omega) (by omega) (by omega)).mono ?_
            rintro e wf ⟨T, hT, rfl, hbf⟩
            have hsr := hsd.below hbf
            have hadd := fun W => cat_run (P := Tryd.prog) S T (by omega) (by omega) W
            have hsz := cat_size S T
            obtain ⟨S1, hS1⟩ : ∃ S1, S1 = S ++ T := ⟨_, rfl⟩
            rw [← hS1] at hadd hsz
            have hS1b : (S1.size : Int) ≤ 9 * k + 3 := by omega
            have HS1 := Lib.hid hS1
            have HT := Lib.hid hT
            clear hS1 hT hsz
            go_wp2_with fail
            clear hadd
            obtain ⟨wo, rfl⟩ : ∃ wo : World, wo = wf := ⟨_, rfl⟩
            go_loopw [5, 7] (fun v j wq => ∃ (m : Nat) (S2 : ByteArray), m ≤ 5 ∧ j = .int .i64 m ∧ v = .string S2 ∧ (S2.size : Int) ≤ 9 * k + 3 + m ∧ St w.heap.size w.heap.size w1 wq) (fun _ j _ => 5 - (intOf j).toNat)
            case atStart => exact ⟨0, S1, by omega, rfl, rfl, by omega, hsr⟩
            case round =>
              obtain ⟨m, S2, hm, rfl, rfl, hS2, hsq⟩ := hrel
              go_wp2_with fail
              refine (below_s 5 _ _ _ _ (by omega) (by omega) hsq).mono ?_
              rintro e wa ⟨y, ⟨hy0, hy1⟩, rfl, hsa⟩
              by_cases hle : (m : Int) ≤ y
              · go_wp2_with fail
                refine (below_s 94 _ _ _ _ (by omega) (by omega) hsa).mono ?_
                rintro e wb ⟨z, ⟨hz0, hz1⟩, rfl, hsb⟩
                obtain ⟨bb, hbb⟩ : ∃ bb : UInt8, IntKind.u8.wrap (33 + z) = (bb.toNat : Int) := ⟨_, u8_33 z hz0 hz1⟩
                have hcv := fun W => conv_oneB (P := Tryd.prog) bb 22 9 5 Tryd.underlying22 Tryd.underlying5 Tryd.underlying9 W
                have hadd := fun W => cat_run (P := Tryd.prog) S2 ⟨#[bb]⟩ (by omega) (by show ((1 : Nat) : Int) ≤ _; omega) W
                have hsz := cat_size S2 ⟨#[bb]⟩
                have hone : (⟨#[bb]⟩ : ByteArray).size = 1 := rfl
                rw [hone] at hsz
                generalize S2 ++ (⟨#[bb]⟩ : ByteArray) = S3 at *
                have HSZ := Lib.hid hsz
                have hsc := hsb.alloc (.cells #[.int .u8 (bb.toNat : Int)] 5)
                clear hsz hone
                go_wp2_with fail
                have HC := Lib.hid hcv
                clear hcv hadd hbb
                go_roundw
                case rel => exact ⟨m + 1, S3, by omega, by go_num, rfl, by have := HSZ.out; omega, hsc⟩
                case measure => simp [intOf]; omega
              · go_wp2_with fail
                go_roundw
                case rel => exact ⟨k + 1, S2, by omega, by go_num, rfl, by omega, hsa⟩
                case measure => simp [intOf]; omega
      · have hkN2 : (24 + x2) ≤ (k : Int) := by omega
        clear hkN
        go_wp2_with fail
        refine (below_s 12 _ _ _ _ (by omega) (by omega) hsr).mono ?_
        rintro e wc ⟨y, ⟨hy0, hy1⟩, rfl, hsc⟩
        rcases (show y = 0 ∨ y = 1 ∨ 1 < y from by omega) with rfl | rfl | hy
        · go_wp2_with fail
          refine (pickNewS_s sixTexts _ 6 _ _ _ _ (by omega) (by omega) rfl rfl hsc).mono ?_
          rintro e wd ⟨T, hT, rfl, hsd⟩
          have hT2 := six_size T hT
          have hadd := fun W => cat_run (P := Tryd.prog) S T (by omega) (by omega) W
          have hsz := cat_size S T
          generalize S ++ T = S1 at *
          have HSZ := Lib.hid hsz
          have HT := Lib.hid hT
          clear hsz hT
          go_wp2_with fail
          go_ret
          exact ⟨S1, by have := HSZ.out; omega, rfl, hsd.fin rfl hb1 (Nat.le_refl _)⟩
        · by_cases hlt : (S.size : Int) < 600
          · go_wp2_with fail
            refine (below_s 2 _ _ _ _ (by omega) (by omega) hsc).mono ?_
            rintro e wd ⟨x2, ⟨hx20, hx21⟩, rfl, hsd⟩
            go_wp2_with fail
            refine (long_i (600 - (S.size : Int) + x2) 32 _ (by omega) (by omega) (by omega) (by omega)).mono ?_
            rintro e wf ⟨T, hT, rfl, hbf⟩
            have hse := hsd.below hbf
            have hadd := fun W => cat_run (P := Tryd.prog) S T (by omega) (by omega) W
            have hsz := cat_size S T
            generalize S ++ T = S1 at *
            have HSZ := Lib.hid hsz
            have HT := Lib.hid hT
            clear hsz hT
            go_wp2_with fail
            go_ret
            exact ⟨S1, by have := HSZ.out; have := HT.out; omega, rfl, hse.fin rfl hb1 (Nat.le_refl _)⟩
          · exfalso; omega
        · go_wp2_with fail
          go_ret
          exact ⟨S, by omega, rfl, hsc.fin rfl hb1 (Nat.le_refl _)⟩
end Go.Proofs.YtbnmbnkgpggnmaaDoor
