import Derived.Test.YtbnmbnkgpggnmaaDoorHexI
import Derived.Test.YtbnmbnkgpggnmaaDoorDecI
import Derived.Test.YtbnmbnkgpggnmaaDoorText
import Derived.Test.YtbnmbnkgpggnmaaDoorVars
import Derived.Test.YtbnmbnkgpggnmaaDoorLaw
import Derived.Test.YtbnmbnkgpggnmaaDoorNumber
namespace Go.Proofs.YtbnmbnkgpggnmaaDoor
open Go.ChangeShapes Go.WideShapes Go.ChangeAt Go.RowKit
set_option linter.unusedVariables false

theorem hexd_fin : ∀ n : Fin 16, valI ((hexd n.val).toNat : Int) = (n.val : Int) := by decide +kernel
theorem val_hexd (n : Nat) (h : n < 16) : valI ((hexd n).toNat : Int) = (n : Int) := hexd_fin ⟨n, h⟩
theorem hexL_at : ∀ (l : List UInt8) (j : Nat) (h : j < l.length), (hexL l).getD (2 * j) 0 = hexd (l[j].toNat / 16) ∧ (hexL l).getD (2 * j + 1) 0 = hexd (l[j].toNat % 16)
  | c :: l, 0, _ => ⟨rfl, rfl⟩
  | c :: l, j + 1, h => by
    have ih := hexL_at l j (by simpa using h)
    have e : hexL (c :: l) = hexd (c.toNat / 16) :: hexd (c.toNat % 16) :: hexL l := rfl
    rw [e, show 2 * (j + 1) = 2 * j + 1 + 1 from by omega]
    simpa using ih

theorem dec_hex (l : List UInt8) : decRes ⟨(hexL l).toArray⟩ = .tuple #[.string ⟨l.toArray⟩, .bool true] := by
  have hs : (⟨(hexL l).toArray⟩ : ByteArray).size = 2 * l.length := by show (hexL l).toArray.size = _; simp [hexL_len]
  have hd : (⟨(hexL l).toArray⟩ : ByteArray).data.toList = hexL l := rfl
  have hval : ∀ j (h : j < l.length), valAt ⟨(hexL l).toArray⟩ (2 * j) = ((l[j].toNat / 16 : Nat) : Int) ∧ valAt ⟨(hexL l).toArray⟩ (2 * j + 1) = ((l[j].toNat % 16 : Nat) : Int) := fun j h => by
    have hc := UInt8.toNat_lt l[j]
    obtain ⟨h1, h2⟩ := hexL_at l j h
    unfold valAt
    rw [hd, h1, h2]
    exact ⟨val_hexd _ (by omega), val_hexd _ (by omega)⟩
  have hall : ∀ t, t < (⟨(hexL l).toArray⟩ : ByteArray).size → 0 ≤ valAt ⟨(hexL l).toArray⟩ t := fun t ht => by
    rw [hs] at ht
    have h := hval (t / 2) (by omega)
    rcases (show t = 2 * (t / 2) ∨ t = 2 * (t / 2) + 1 from by omega) with e | e
    · rw [e, h.1]; omega
    · rw [e, h.2]; omega
  rw [decRes_good _ (by omega) hall]
  have hp : decP ⟨(hexL l).toArray⟩ (⟨(hexL l).toArray⟩ : ByteArray).size = l := by
    unfold decP
    rw [hs, show 2 * l.length / 2 = l.length from by omega]
    apply List.ext_getElem
    · simp
    · intro j h1 h2
      simp only [List.getElem_map, List.getElem_range]
      unfold byteAt
      rw [(hval j h2).1, (hval j h2).2]
      have hc := UInt8.toNat_lt l[j]
      rw [show (16 * ((l[j].toNat / 16 : Nat) : Int) + ((l[j].toNat % 16 : Nat) : Int)).toNat = l[j].toNat from by omega]
      simp
  rw [hp]

/-- some text of at most m bytes -/
def SomeText (m : Int) (w : World) (e : Ending) (w' : World) : Prop := ∃ s : ByteArray, (s.size : Int) ≤ m ∧ e = .returned (.string s) ∧ Below w.heap.size w w'

set_option maxHeartbeats 1000000 in
theorem drawEncodeHex (a : Option Addr) (len cap : Nat) (w : World) (hb : Bytes w w.heap.size a len) :
    Calls Tryd.prog 9 #[.slice a len cap] w (SomeText 20001 w) := by
  go_enter Tryd.func9, Tryd.ntmps9
  go_wp2_with fail
  refine (new_s a len cap w hb).mono ?_
  rintro e w1 ⟨rfl, hc1, hb1⟩
  have hs1 : St w.heap.size w.heap.size w1 w1 := ⟨hc1, only_refl _ _⟩
  go_wp2_with fail
  refine (once_s 60 _ _ _ _ (by omega) (by omega) hs1).mono ?_
  rintro e w2 ⟨b, rfl, hs2⟩
  cases b
  · go_wp2_with fail
    refine (below_s 30 _ _ _ _ (by omega) (by omega) hs2).mono ?_
    rintro e w3 ⟨x, ⟨hx0, hx1⟩, rfl, hs3⟩
    obtain ⟨m, rfl⟩ : ∃ m : Nat, x = m := ⟨x.toNat, by omega⟩
    go_wp2_with fail
    refine (text_s m _ _ _ _ (by omega) hs3).mono ?_
    rintro e w4 ⟨s, hsz, rfl, hs4⟩
    go_wp2_with fail
    go_ret
    exact ⟨s, by omega, rfl, hs4.fin rfl hb1 (Nat.le_refl _)⟩
  · go_wp2_with fail
    refine (below_s 2 _ _ _ _ (by omega) (by omega) hs2).mono ?_
    rintro e w3 ⟨x, ⟨hx0, hx1⟩, rfl, hs3⟩
    go_wp2_with fail
    refine (long_i (20000 + x) 200 _ (by omega) (by omega) (by omega) (by omega)).mono ?_
    rintro e w4 ⟨s, hsz, rfl, hb4⟩
    have HS := Lib.hid hsz
    clear hsz
    go_wp2_with fail
    go_ret
    exact ⟨s, by have := HS.out; omega, rfl, (hs3.below hb4).fin rfl hb1 (Nat.le_refl _)⟩

theorem bne_len (l : List UInt8) : (⟨(hexL l).toArray⟩ : ByteArray).size = 2 * l.length := by show (hexL l).toArray.size = _; simp [hexL_len]

set_option maxHeartbeats 1000000 in
theorem walk_FnHexText (a0 : Option Addr) (len0 cap0 : Nat) (z0 : List Int) (w : World) (w0 : IsRow .u8 w a0 len0 cap0 z0) (hL : laidMetH Tryd.prog Rows.fnHexTextRow.laid w) :
    Calls Tryd.prog 3 #[.slice a0 len0 cap0] w fun e w' => e = .returned (.bool true) ∧ Below w.heap.size w w' := by
  have htab := table hL (by kernel_rfl)
  have HT := Lib.hid htab
  clear htab hL
  have hb := Bytes.of_row w0
  have hm := hb.1
  by_cases hbig : (1048576 : Int) < (len0 : Int)
  · go_enter Tryd.func3, Tryd.ntmps3
    go_wp2_with fail
    refine (big_c _ _ _ _ hm true (by simpa using hbig)).mono ?_
    rintro e w' ⟨rfl, rfl⟩
    go_wp2_with fail
    go_ret
    exact ⟨rfl, Below.refl _ _⟩
  · go_enter Tryd.func3, Tryd.ntmps3
    go_wp2_with fail
    refine (big_c _ _ _ _ hm false (by simpa using hbig)).mono ?_
    rintro e w' ⟨rfl, rfl⟩
    go_wp2_with fail
    refine (drawEncodeHex _ _ _ _ hb).mono ?_
    rintro e w1 ⟨s, hsz, rfl, hb1⟩
    clear hb hm hbig w0
    by_cases hle : (s.size : Int) ≤ 20000
    · have C1 := fun W => implEnc s W (by omega)
      have hh := bne_len s.data.toList
      have hhd : (⟨(hexL s.data.toList).toArray⟩ : ByteArray).size % 2 = 0 := by rw [hh]; omega
      have hl : s.data.toList.length = s.size := by simp
      have C2 := fun W => implDec_ok ⟨(hexL s.data.toList).toArray⟩ W (by rw [hh, hl]; omega) hhd
      rw [dec_hex] at C2
      rw [hl] at hh
      have hse : (⟨s.data.toList.toArray⟩ : ByteArray) = s := rfl
      rw [hse] at C2
      have hlen : ((⟨(hexL s.data.toList).toArray⟩ : ByteArray).size : Int) = 2 * (s.size : Int) := by rw [hh]; omega
      generalize (⟨(hexL s.data.toList).toArray⟩ : ByteArray) = H at *
      have H1 := Lib.hid C1
      have H2 := Lib.hid C2
      clear C1 C2 hhd hl hse hh
      go_wp2_with fail
      refine (H1.out _).mono ?_
      rintro e w2 ⟨rfl, hb2⟩
      go_wp2_with fail
      refine (H2.out _).mono ?_
      rintro e w3 ⟨rfl, hb3⟩
      go_wp2_with fail
      go_ret
      exact ⟨rfl, (hb1.trans (hb2.mono hb1.size)).trans (hb3.mono (hb1.trans (hb2.mono hb1.size)).size)⟩
    · have hf : Lib.itoa 10 = [49, 48] := by rw [show (10 : Int) = ((10 : Nat) : Int) from rfl, itoa_pos, Lib.decDigits_two (by omega) (by omega)]; rfl
      have C1 := fun W (hW : Below w.heap.size w W) => implFmt 10 (by omega) (by omega) W (Go.Joins.tab_stays gTab HT.out hW (Nat.le_refl _))
      rw [hf] at C1
      have H1 := Lib.hid C1
      clear C1 hf
      have hlt : 20000 < s.size := by omega
      go_wp2_with fail
      refine (implEnc_long s _ (by unfold maxLen; omega) hlt).mono ?_
      rintro e w2 ⟨rfl, rfl⟩
      go_wp2_with fail
      refine (H1.out _ hb1).mono ?_
      rintro e w3 ⟨rfl, hb3⟩
      go_wp2_with fail
      go_ret
      exact ⟨rfl, hb1.trans (hb3.mono hb1.size)⟩
end Go.Proofs.YtbnmbnkgpggnmaaDoor
