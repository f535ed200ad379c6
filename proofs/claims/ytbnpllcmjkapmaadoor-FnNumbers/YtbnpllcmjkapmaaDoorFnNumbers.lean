/- For every code, where the library's tables are as its text lays them (the card ties that): a drawn number comes back from VarText and from Decimal, a drawn text from ShortText and Hex, and the code reads as before. -/
import Derived.Test.YtbnpllcmjkapmaaDoorCards
import Derived.Test.YtbnpllcmjkapmaaDoorTie
import Derived.Test.YtbnpllcmjkapmaaDoorItoaW
import Derived.Test.YtbnpllcmjkapmaaDoorRound
import Derived.Test.YtbnpllcmjkapmaaDoorDrawW
import Derived.WalkKit
import Derived.ProofKit
import Derived.OpenShut
import Derived.ShutString
import Derived.ChangeOld
import Derived.Below
import Derived.Deep.DeepHandedRow
import Derived.Lib.LaidTab
import Derived.LaidSub
namespace Go.Proofs.YtbnpllcmjkapmaaDoor
namespace fnNumbers
open Go.ChangeShapes Go.WideShapes Go.ChangeAt Go.RowKit Go.PlainAid

theorem own : ownKnob Tryd.prog.godebug = none := by kernel_rfl
theorem laidOut : laidOutB Tryd.prog = true := by kernel_rfl
theorem gTabType : (Tryd.prog.globals[0]?).map (·.type) = some 62 := by kernel_rfl
theorem cellsTab : Tryd.prog.cellsOf 62 = 20 := by kernel_rfl
theorem cellsElem : Tryd.prog.cellsOf 55 = 1 := by kernel_rfl
theorem table {W : World} (h : laidMetH Tryd.prog Rows.fnNumbersRow.laid W) : Lib.TabIs Tryd.prog W "internal/strconv.uint64pow10" .u64 Lib.pow10Tab := by
  have h1 : laidMetH Tryd.prog [("internal/strconv.uint64pow10", Rows.laid_internal_strconv_uint64pow10)] W := h.filter (fun x => x.1 == "internal/strconv.uint64pow10")
  exact Lib.tabIs_of_head (rest := []) gPow gTabType Tryd.underlying62 Tryd.underlying55 cellsElem cellsTab h1

theorem codeIn_later {w w' : World} {a : Option Addr} {len : Nat} (h : CodeIn w.heap.size w a len) (hb : Below w.heap.size w w') : CodeIn w'.heap.size w' a len := by
  refine ⟨h.1, ?_⟩
  rcases h.2 with h0 | ⟨b, off, rfl, hbB, hc⟩
  · exact .inl h0
  · exact .inr ⟨b, off, rfl, Nat.lt_of_lt_of_le hbB hb.size, fun i hi => by
      obtain ⟨z, hz, h1⟩ := hc i hi
      exact ⟨z, cell_later hb hz, h1⟩⟩

theorem big_any (a : Option Addr) (len cap : Nat) (w : World) :
    Calls Tryd.prog 4 #[.slice a len cap] w fun e w' => e = .returned (.bool (decide ((1048576 : Int) < (len : Int)))) ∧ w = w' := by
  go_enter Tryd.func4, Tryd.ntmps4
  go_wp2
  go_ret
  exact ⟨rfl, rfl⟩

def S1 (X : Int) : ByteArray := strOfNums (vb X.toNat)
def D1 (X : Int) : ByteArray := strOfNums (dec X.toNat)
def H1 (t : ByteArray) : ByteArray := strOfNums (hexN (nums t.data.toList))
theorem S1_size (X : Int) (h0 : 0 ≤ X) (h1 : X ≤ 1000000000) : (S1 X).size ≤ 10 := by unfold S1; exact strOfNums_vb_size _ (by omega)
theorem n1 (X : Int) (w : World) (h0 : 0 ≤ X) (h1 : X ≤ 1000000000) :
    Calls Tryd.prog 6 #[.int .i64 X] w fun e w' => e = .returned (.tuple #[.string (S1 X), .bool true]) ∧ Below w.heap.size w w' := by
  have := implVar_yes X.toNat w (by omega)
  rw [show ((X.toNat : Nat) : Int) = X by omega] at this
  exact this
theorem n2 (X : Int) (w : World) (h0 : 0 ≤ X) (h1 : X ≤ 1000000000) :
    Calls Tryd.prog 7 #[.string (⟨#[120]⟩ ++ S1 X ++ ⟨#[121]⟩), .int .i64 1] w fun e w' => e = .returned (.tuple #[.int .i64 X, .int .i64 ((1 + (S1 X).size : Nat) : Int), .bool true]) ∧ w = w' := by
  have hb := var_back (A := ⟨#[120]⟩) (C := ⟨#[121]⟩) (n := X.toNat) (by omega)
  rw [show ((X.toNat : Nat) : Int) = X by omega] at hb
  have hs := S1_size X h0 h1
  exact implRead_some _ 1 w (by rw [size_app, size_app]; have e1 : (⟨#[120]⟩ : ByteArray).size = 1 := rfl; have e2 : (⟨#[121]⟩ : ByteArray).size = 1 := rfl; omega) X _ hb
theorem n3 (X : Int) (w : World) (h0 : 0 ≤ X) (h1 : X ≤ 1000000000) (htab : Lib.TabIs Tryd.prog w "internal/strconv.uint64pow10" .u64 Lib.pow10Tab) :
    Calls Tryd.prog 9 #[.int .i64 X] w fun e w' => e = .returned (.string (D1 X)) ∧ Below w.heap.size w w' := by
  have := implDec X w (by omega) (by omega) htab
  have e : decI X = dec X.toNat := by
    have := decI_nat X.toNat; rwa [show ((X.toNat : Nat) : Int) = X by omega] at this
  rw [e] at this
  exact this
theorem n4 (X : Int) (w : World) (h0 : 0 ≤ X) (h1 : X ≤ 1000000000) :
    Calls Tryd.prog 8 #[.string (D1 X)] w fun e w' => e = .returned (.tuple #[.int .i64 X, .bool true]) ∧ Below w.heap.size w w' := by
  have hr : RD (D1 X) = some X := by
    have := dec_back X.toNat (by omega)
    rw [show ((X.toNat : Nat) : Int) = X by omega] at this
    exact this
  have hs : (D1 X).size ≤ 20 := by unfold D1; rw [strOfNums_size]; exact dec_len20 _ (by omega)
  refine (implRD (D1 X) w (by omega)).mono fun e w' ⟨h, hb⟩ => ⟨?_, hb⟩
  rcases h with ⟨n, hn, rfl⟩ | ⟨hn, _⟩
  · rw [hr] at hn; cases hn; rfl
  · rw [hr] at hn; cases hn
theorem t1 (t : ByteArray) (w : World) (ht : t.size ≤ 300) :
    Calls Tryd.prog 11 #[.string t] w fun e w' => e = .returned (.tuple #[.string (shortOf t), .bool true]) ∧ Below w.heap.size w w' := implShort_yes t w (by omega)
theorem t2 (t : ByteArray) (w : World) (ht : t.size ≤ 300) :
    Calls Tryd.prog 12 #[.string (shortOf t), .int .i64 0] w fun e w' => e = .returned (.tuple #[.string t, .int .i64 ((shortOf t).size : Int), .bool true]) ∧ Below w.heap.size w w' := by
  have hs : (shortOf t).size = (strOfNums (vb t.size)).size + t.size := by unfold shortOf; exact size_app _ _
  have h10 := strOfNums_vb_size t.size (by omega)
  have := implRS_some (shortOf t) 0 w (by omega) _ _ (short_back t (by omega))
  rw [short_cut, ← hs] at this
  exact this
theorem t3 (t : ByteArray) (w : World) (ht : t.size ≤ 300) :
    Calls Tryd.prog 13 #[.string t] w fun e w' => e = .returned (.tuple #[.string (H1 t), .bool true]) ∧ Below w.heap.size w w' := by
  have := implHex_yes t w (by omega)
  have e : tk t 0 t.size = t.data.toList := by unfold tk; rw [List.drop_zero, List.take_of_length_le (by simp)]
  rw [e] at this
  exact this
theorem t4 (t : ByteArray) (w : World) (ht : t.size ≤ 300) :
    Calls Tryd.prog 14 #[.string (H1 t)] w fun e w' => e = .returned (.tuple #[.string t, .bool true]) ∧ Below w.heap.size w w' := by
  obtain ⟨h1, h2, h3⟩ := hex_back t
  refine (implUnhex_even (H1 t) t.size w h1 (by unfold H1; omega)).mono fun e w' ⟨h, hb⟩ => ⟨?_, hb⟩
  rcases h with ⟨rfl, _⟩ | ⟨_, hn⟩
  · unfold H1; rw [h3]
  · exact absurd h2 hn

set_option maxHeartbeats 4000000 in
theorem walk (a0 : Option Addr) (len0 cap0 : Nat) (w : World) (hc : len0 ≤ 1048576 → CodeIn w.heap.size w a0 len0) (htab : Lib.TabIs Tryd.prog w "internal/strconv.uint64pow10" .u64 Lib.pow10Tab) :
    Calls Tryd.prog 3 #[.slice a0 len0 cap0] w fun e w' => e = .returned (.bool true) ∧ Below w.heap.size w w' := by
  have HT : Hid (Lib.TabIs Tryd.prog w "internal/strconv.uint64pow10" .u64 Lib.pow10Tab) := htab
  clear htab
  by_cases hs : len0 ≤ 1048576
  · have hd : decide ((1048576 : Int) < (len0 : Int)) = false := by simp; omega
    have HC : Hid (CodeIn w.heap.size w a0 len0) := hc hs
    clear hc
    go_enter Tryd.func3, Tryd.ntmps3
    go_wp2_with fail
    refine (big_any a0 len0 cap0 _).mono ?_
    rintro e w1 ⟨rfl, rfl⟩
    go_wp2_with fail
    refine (drawVar_any a0 len0 cap0 _ HC.out).mono ?_
    rintro e w1 ⟨n, rfl, hB1⟩
    by_cases hn0 : n < 0
    · have hc0 : (0 : Int) ≤ 12345 := by decide
      have hc1 : (12345 : Int) ≤ 1000000000 := by decide
      have hS := S1_size 12345 hc0 hc1
      go_wp2_with fail
      refine (n1 12345 _ hc0 hc1).mono ?_
      rintro e w2 ⟨rfl, hb2⟩
      have hB2 := hB1.trans (hb2.mono hB1.size)
      go_wp2_with fail
      refine (n2 12345 _ hc0 hc1).mono ?_
      rintro e w3 ⟨rfl, rfl⟩
      go_wp2_with fail
      refine (n3 12345 _ hc0 hc1 (tab_below gPow HT.out hB2)).mono ?_
      rintro e w3 ⟨rfl, hb3⟩
      have hB3 := hB2.trans (hb3.mono hB2.size)
      go_wp2_with fail
      refine (n4 12345 _ hc0 hc1).mono ?_
      rintro e w4 ⟨rfl, hb4⟩
      have hB4 := hB3.trans (hb4.mono hB3.size)
      go_wp2_with fail
      refine (drawHex_any a0 len0 cap0 _ (codeIn_later HC.out hB4)).mono ?_
      rintro e w5 ⟨t, rfl, hts, hb5⟩
      have hB5 : Below w.heap.size w w5 := hB4.trans (hb5.mono hB4.size)
      clear hB2 hB3 hB4 hb2 hb3 hb4 hb5
      by_cases ht : t.size ≤ 300
      · have ht' : ¬ (300 : Int) < (t.size : Int) := by omega
        go_wp2_with fail
        refine (t1 t _ ht).mono ?_
        rintro e w6 ⟨rfl, hb6⟩
        have hB6 := hB5.trans (hb6.mono hB5.size)
        go_wp2_with fail
        refine (t2 t _ ht).mono ?_
        rintro e w7 ⟨rfl, hb7⟩
        have hB7 := hB6.trans (hb7.mono hB6.size)
        go_wp2_with fail
        refine (t3 t _ ht).mono ?_
        rintro e w8 ⟨rfl, hb8⟩
        have hB8 := hB7.trans (hb8.mono hB7.size)
        go_wp2_with fail
        refine (t4 t _ ht).mono ?_
        rintro e w9 ⟨rfl, hb9⟩
        have hB9 := hB8.trans (hb9.mono hB8.size)
        have hat : ((1 + (S1 12345).size : Nat) : Int) = ((S1 12345).size : Int) + 1 := by omega
        clear hB6 hB7 hB8 hb6 hb7 hb8 hb9
        go_wp2
        go_ret
        exact ⟨rfl, hB9⟩
      · have ht' : (300 : Int) < (t.size : Int) := by omega
        go_wp2_with fail
        refine (t1 ⟨#[97, 98, 99]⟩ _ (by decide)).mono ?_
        rintro e w6 ⟨rfl, hb6⟩
        have hB6 := hB5.trans (hb6.mono hB5.size)
        go_wp2_with fail
        refine (t2 ⟨#[97, 98, 99]⟩ _ (by decide)).mono ?_
        rintro e w7 ⟨rfl, hb7⟩
        have hB7 := hB6.trans (hb7.mono hB6.size)
        go_wp2_with fail
        refine (t3 ⟨#[97, 98, 99]⟩ _ (by decide)).mono ?_
        rintro e w8 ⟨rfl, hb8⟩
        have hB8 := hB7.trans (hb8.mono hB7.size)
        go_wp2_with fail
        refine (t4 ⟨#[97, 98, 99]⟩ _ (by decide)).mono ?_
        rintro e w9 ⟨rfl, hb9⟩
        have hB9 := hB8.trans (hb9.mono hB8.size)
        have hat : ((1 + (S1 12345).size : Nat) : Int) = ((S1 12345).size : Int) + 1 := by omega
        clear hB6 hB7 hB8 hb6 hb7 hb8 hb9
        go_wp2
        go_ret
        exact ⟨rfl, hB9⟩
    · by_cases hn1 : 1000000000 < n
      · have hc0 : (0 : Int) ≤ 12345 := by decide
        have hc1 : (12345 : Int) ≤ 1000000000 := by decide
        have hS := S1_size 12345 hc0 hc1
        go_wp2_with fail
        refine (n1 12345 _ hc0 hc1).mono ?_
        rintro e w2 ⟨rfl, hb2⟩
        have hB2 := hB1.trans (hb2.mono hB1.size)
        go_wp2_with fail
        refine (n2 12345 _ hc0 hc1).mono ?_
        rintro e w3 ⟨rfl, rfl⟩
        go_wp2_with fail
        refine (n3 12345 _ hc0 hc1 (tab_below gPow HT.out hB2)).mono ?_
        rintro e w3 ⟨rfl, hb3⟩
        have hB3 := hB2.trans (hb3.mono hB2.size)
        go_wp2_with fail
        refine (n4 12345 _ hc0 hc1).mono ?_
        rintro e w4 ⟨rfl, hb4⟩
        have hB4 := hB3.trans (hb4.mono hB3.size)
        go_wp2_with fail
        refine (drawHex_any a0 len0 cap0 _ (codeIn_later HC.out hB4)).mono ?_
        rintro e w5 ⟨t, rfl, hts, hb5⟩
        have hB5 : Below w.heap.size w w5 := hB4.trans (hb5.mono hB4.size)
        clear hB2 hB3 hB4 hb2 hb3 hb4 hb5
        by_cases ht : t.size ≤ 300
        · have ht' : ¬ (300 : Int) < (t.size : Int) := by omega
          go_wp2_with fail
          refine (t1 t _ ht).mono ?_
          rintro e w6 ⟨rfl, hb6⟩
          have hB6 := hB5.trans (hb6.mono hB5.size)
          go_wp2_with fail
          refine (t2 t _ ht).mono ?_
          rintro e w7 ⟨rfl, hb7⟩
          have hB7 := hB6.trans (hb7.mono hB6.size)
          go_wp2_with fail
          refine (t3 t _ ht).mono ?_
          rintro e w8 ⟨rfl, hb8⟩
          have hB8 := hB7.trans (hb8.mono hB7.size)
          go_wp2_with fail
          refine (t4 t _ ht).mono ?_
          rintro e w9 ⟨rfl, hb9⟩
          have hB9 := hB8.trans (hb9.mono hB8.size)
          have hat : ((1 + (S1 12345).size : Nat) : Int) = ((S1 12345).size : Int) + 1 := by omega
          clear hB6 hB7 hB8 hb6 hb7 hb8 hb9
          go_wp2
          go_ret
          exact ⟨rfl, hB9⟩
        · have ht' : (300 : Int) < (t.size : Int) := by omega
          go_wp2_with fail
          refine (t1 ⟨#[97, 98, 99]⟩ _ (by decide)).mono ?_
          rintro e w6 ⟨rfl, hb6⟩
          have hB6 := hB5.trans (hb6.mono hB5.size)
          go_wp2_with fail
          refine (t2 ⟨#[97, 98, 99]⟩ _ (by decide)).mono ?_
          rintro e w7 ⟨rfl, hb7⟩
          have hB7 := hB6.trans (hb7.mono hB6.size)
          go_wp2_with fail
          refine (t3 ⟨#[97, 98, 99]⟩ _ (by decide)).mono ?_
          rintro e w8 ⟨rfl, hb8⟩
          have hB8 := hB7.trans (hb8.mono hB7.size)
          go_wp2_with fail
          refine (t4 ⟨#[97, 98, 99]⟩ _ (by decide)).mono ?_
          rintro e w9 ⟨rfl, hb9⟩
          have hB9 := hB8.trans (hb9.mono hB8.size)
          have hat : ((1 + (S1 12345).size : Nat) : Int) = ((S1 12345).size : Int) + 1 := by omega
          clear hB6 hB7 hB8 hb6 hb7 hb8 hb9
          go_wp2
          go_ret
          exact ⟨rfl, hB9⟩
      · have hx0 : 0 ≤ n := by omega
        have hx1 : n ≤ 1000000000 := by omega
        have hS := S1_size n hx0 hx1
        go_wp2_with fail
        refine (n1 n _ hx0 hx1).mono ?_
        rintro e w2 ⟨rfl, hb2⟩
        have hB2 := hB1.trans (hb2.mono hB1.size)
        go_wp2_with fail
        refine (n2 n _ hx0 hx1).mono ?_
        rintro e w3 ⟨rfl, rfl⟩
        go_wp2_with fail
        refine (n3 n _ hx0 hx1 (tab_below gPow HT.out hB2)).mono ?_
        rintro e w3 ⟨rfl, hb3⟩
        have hB3 := hB2.trans (hb3.mono hB2.size)
        go_wp2_with fail
        refine (n4 n _ hx0 hx1).mono ?_
        rintro e w4 ⟨rfl, hb4⟩
        have hB4 := hB3.trans (hb4.mono hB3.size)
        go_wp2_with fail
        refine (drawHex_any a0 len0 cap0 _ (codeIn_later HC.out hB4)).mono ?_
        rintro e w5 ⟨t, rfl, hts, hb5⟩
        have hB5 : Below w.heap.size w w5 := hB4.trans (hb5.mono hB4.size)
        clear hB2 hB3 hB4 hb2 hb3 hb4 hb5
        by_cases ht : t.size ≤ 300
        · have ht' : ¬ (300 : Int) < (t.size : Int) := by omega
          go_wp2_with fail
          refine (t1 t _ ht).mono ?_
          rintro e w6 ⟨rfl, hb6⟩
          have hB6 := hB5.trans (hb6.mono hB5.size)
          go_wp2_with fail
          refine (t2 t _ ht).mono ?_
          rintro e w7 ⟨rfl, hb7⟩
          have hB7 := hB6.trans (hb7.mono hB6.size)
          go_wp2_with fail
          refine (t3 t _ ht).mono ?_
          rintro e w8 ⟨rfl, hb8⟩
          have hB8 := hB7.trans (hb8.mono hB7.size)
          go_wp2_with fail
          refine (t4 t _ ht).mono ?_
          rintro e w9 ⟨rfl, hb9⟩
          have hB9 := hB8.trans (hb9.mono hB8.size)
          have hat : ((1 + (S1 n).size : Nat) : Int) = ((S1 n).size : Int) + 1 := by omega
          clear hB6 hB7 hB8 hb6 hb7 hb8 hb9
          go_wp2
          go_ret
          exact ⟨rfl, hB9⟩
        · have ht' : (300 : Int) < (t.size : Int) := by omega
          go_wp2_with fail
          refine (t1 ⟨#[97, 98, 99]⟩ _ (by decide)).mono ?_
          rintro e w6 ⟨rfl, hb6⟩
          have hB6 := hB5.trans (hb6.mono hB5.size)
          go_wp2_with fail
          refine (t2 ⟨#[97, 98, 99]⟩ _ (by decide)).mono ?_
          rintro e w7 ⟨rfl, hb7⟩
          have hB7 := hB6.trans (hb7.mono hB6.size)
          go_wp2_with fail
          refine (t3 ⟨#[97, 98, 99]⟩ _ (by decide)).mono ?_
          rintro e w8 ⟨rfl, hb8⟩
          have hB8 := hB7.trans (hb8.mono hB7.size)
          go_wp2_with fail
          refine (t4 ⟨#[97, 98, 99]⟩ _ (by decide)).mono ?_
          rintro e w9 ⟨rfl, hb9⟩
          have hB9 := hB8.trans (hb9.mono hB8.size)
          have hat : ((1 + (S1 n).size : Nat) : Int) = ((S1 n).size : Int) + 1 := by omega
          clear hB6 hB7 hB8 hb6 hb7 hb8 hb9
          go_wp2
          go_ret
          exact ⟨rfl, hB9⟩
  · have hd : decide ((1048576 : Int) < (len0 : Int)) = true := by simp; omega
    clear hc
    go_enter Tryd.func3, Tryd.ntmps3
    go_wp2_with fail
    refine (big_any a0 len0 cap0 _).mono ?_
    rintro e w1 ⟨rfl, rfl⟩
    go_wp2
    go_ret
    exact ⟨rfl, Below.refl _ _⟩

theorem code_of {H : Type} {enc : TypeId × Value → H} {W : World} {a0 : Option Addr} {len0 cap0 : Nat} {d0 : DataW H} {p0 : List MemPlace}
    (h0 : DataW.Trod enc Tryd.prog W 0 (fun _ => true) true 22 (.slice a0 len0 cap0) d0 p0) : len0 ≤ 1048576 → CodeIn W.heap.size W a0 len0 := by
  intro hsm
  refine ⟨hsm, ?_⟩
  obtain ⟨fuel, hf⟩ := h0
  rcases open_ints Tryd.underlying22 Tryd.underlying5 (by kernel_rfl) hf with ⟨hcs, _⟩ | ⟨x, l, c, zs, hcs, _, hl, hm, hz, _, hcell, hwz⟩
  · simp [Value.cells] at hcs
    exact .inl hcs.2.1
  · simp [Value.cells] at hcs
    obtain ⟨rfl, rfl, rfl⟩ := hcs
    rcases Nat.eq_zero_or_pos len0 with h0 | h0
    · exact .inl h0
    · obtain ⟨b, off, spot⟩ := x
      have hz' : zs.length = cap0 := by simpa using hz
      have hc0 := hcell 0 (by omega)
      have hspot : spot = none := by simpa [Addr.add] using World.cell?_spot hc0
      subst hspot
      refine .inr ⟨b, off, rfl, ?_, fun i hi => ?_⟩
      · have := World.block_lt_of_cell? W _ hc0
        simpa [Addr.add] using this
      · have hci := hcell i (by omega)
        have e : (⟨b, off, none⟩ : Addr).add i = ⟨b, off + i, none⟩ := by unfold Addr.add; split <;> simp_all
        rw [e] at hci
        have hb := range_u8 hwz i
        exact ⟨_, hci, by simpa [List.getD] using hb⟩

theorem contract (H : Type) (enc : TypeId × Value → H) (W : World) (base : Nat) (args : Array Value) (ds gs : List (DataW H)) (before : List MemPlace)
    (hval : ∀ (j : Nat) t v, Tryd.f3.params[j]? = some t → args[j]? = some v → Value.okWide Tryd.prog W .any base t v)
    (hW : DataW.Whole enc Tryd.prog Tryd.f3.params.toList Rows.fnNumbersSpec.vars false W args.toList ds gs before) (hL : laidMetH Tryd.prog Rows.fnNumbersRow.laid W) :
    Calls Tryd.prog 3 args W fun e W' => ∃ v, e = .returned v ∧ Rows.fnNumbersSpec.post enc Tryd.prog Tryd.f3 false true false false W args v W' := by
  have hW' := hW
  obtain ⟨p, q, hA0, hV, rfl, hfz, hnd⟩ := hW
  have hA : DataW.TrodAll enc Tryd.prog W 0 (fun _ => true) true Tryd.f3.params.toList args.toList ds p := hA0
  rw [Tryd.params3] at hA hval
  obtain ⟨v0, vs0, d0, ds0, p0, q0, hargs, rfl, rfl, h0, r0⟩ := trodAll_cons hA
  obtain ⟨rfl, rfl, rfl⟩ := trodAll_nil r0
  obtain rfl : args = #[v0] := by cases args; simp_all
  obtain ⟨rfl, rfl⟩ := trodVars_none hV
  obtain ⟨a0, len0, cap0, rfl⟩ := okWide_slice Tryd.underlying22 (hval 0 22 v0 rfl rfl)
  have k0 := h0
  have lt0 : ∀ x ∈ p0, x.block < W.heap.size := by obtain ⟨m, hm⟩ := k0; exact DataW.trod_lt m _ _ _ hm
  have hcode := code_of h0
  clear hA0
  refine (walk a0 len0 cap0 W hcode (table hL)).mono fun e W' ⟨he, bel⟩ => ?_
  subst he
  exact ⟨_, rfl, _, _, _, [], _, [], hW', trodAll_mk1 (shut_bool Tryd.underlying4 _), (trodAll_cons_mk (Below.trod laidOut (by kernel_rfl) (of_decide_eq_true (by kernel_rfl)) k0 bel lt0) trodAll_mk0), rfl, bel.frame _, fun h => by cases h⟩

def relay (cs : Array Value) : Obj → Obj
  | .cells _ t frozen => .cells cs t frozen
  | o => o
noncomputable def laidWorld (os : Os) : World :=
  { World.holding Tryd.prog os ⟨#[], #[], []⟩ with heap := (((World.holding Tryd.prog os ⟨#[], #[], []⟩).heap.modify 0 (relay #[.int .u64 1, .int .u64 10, .int .u64 100, .int .u64 1000, .int .u64 10000, .int .u64 100000, .int .u64 1000000, .int .u64 10000000, .int .u64 100000000, .int .u64 1000000000, .int .u64 10000000000, .int .u64 100000000000, .int .u64 1000000000000, .int .u64 10000000000000, .int .u64 100000000000000, .int .u64 1000000000000000, .int .u64 10000000000000000, .int .u64 100000000000000000, .int .u64 1000000000000000000, .int .u64 10000000000000000000])).modify 1 (relay #[.int .u8 0, .int .u8 1, .int .u8 28, .int .u8 2, .int .u8 29, .int .u8 14, .int .u8 24, .int .u8 3, .int .u8 30, .int .u8 22, .int .u8 20, .int .u8 15, .int .u8 25, .int .u8 17, .int .u8 4, .int .u8 8, .int .u8 31, .int .u8 27, .int .u8 13, .int .u8 23, .int .u8 21, .int .u8 19, .int .u8 16, .int .u8 7, .int .u8 26, .int .u8 12, .int .u8 18, .int .u8 6, .int .u8 11, .int .u8 5, .int .u8 10, .int .u8 9])).modify 2 (relay #[.int .u8 0, .int .u8 1, .int .u8 56, .int .u8 2, .int .u8 57, .int .u8 49, .int .u8 28, .int .u8 3, .int .u8 61, .int .u8 58, .int .u8 42, .int .u8 50, .int .u8 38, .int .u8 29, .int .u8 17, .int .u8 4, .int .u8 62, .int .u8 47, .int .u8 59, .int .u8 36, .int .u8 45, .int .u8 43, .int .u8 51, .int .u8 22, .int .u8 53, .int .u8 39, .int .u8 33, .int .u8 30, .int .u8 24, .int .u8 18, .int .u8 12, .int .u8 5, .int .u8 63, .int .u8 55, .int .u8 48, .int .u8 27, .int .u8 60, .int .u8 41, .int .u8 37, .int .u8 16, .int .u8 46, .int .u8 35, .int .u8 44, .int .u8 21, .int .u8 52, .int .u8 32, .int .u8 23, .int .u8 11, .int .u8 54, .int .u8 26, .int .u8 40, .int .u8 15, .int .u8 34, .int .u8 20, .int .u8 31, .int .u8 10, .int .u8 25, .int .u8 14, .int .u8 19, .int .u8 9, .int .u8 13, .int .u8 8, .int .u8 7, .int .u8 6]) }
theorem laid_met (os : Os) : laidMet Tryd.prog Rows.fnNumbersRow.laid ((laidWorld os).forCall (fun _ _ => 0) ⟨#[], #[.slice none 0 0], []⟩).memory :=
  laidMet_of_run' 8 (by kernel_rfl) (by kernel_rfl)
theorem reads (os : Os) {H : Type} (enc : TypeId × Value → H) : ∃ d places, DataW.whole enc Tryd.prog ((laidWorld os).forCall (fun _ _ => 0) ⟨#[], #[.slice none 0 0], []⟩).memory Tryd.f3.params.toList Rows.fnNumbersSpec.vars false #[Value.slice none 0 0].toList 8 = some ([d], [], places) :=
  ⟨.nil, [], by kernel_rfl⟩

set_option maxRecDepth 100000 in
theorem lifted (os : Os) (started : os.Started) (H : Type) (enc : TypeId × Value → H) (F : Stop.Interp) :
    ReturnsInHanded {} Tryd.checked os 3 .any ((OpenSpec.ofChange Rows.fnNumbersSpec).preRow enc Tryd.prog Tryd.f3 Rows.fnNumbersRow.domain false Rows.fnNumbersRow.laid) (((OpenSpec.ofChange Rows.fnNumbersSpec).at F).post enc Tryd.prog Tryd.f3 false true false false) := by
  obtain ⟨d, places, hx⟩ := reads os enc
  refine returnsInHanded_of_row (C := Tryd.checked) (s := OpenSpec.ofChange Rows.fnNumbersSpec) own started (by kernel_rfl) Tryd.func3
    (witness_row_at (enc := enc) (C := Tryd.checked) false (laidWorld os) #[.slice none 0 0] rfl (by kernel_rfl) (by kernel_rfl) (by kernel_rfl)
      (OpenSpec.preRow_of_cond 8 hx (by kernel_rfl) (fun k hk => by cases hk) (by kernel_rfl) (laid_met os))) ?_
  intro W base args ds gs before hval hW _ _ _ hL _ _
  exact contract H enc W base args ds gs before hval hW hL

theorem said : Rows.FnNumbersSaid :=
  OpenClaim.holds_of_cond 3 Tryd.f3 rfl rfl rfl rfl rfl rfl rfl ⟨rfl, rfl, rfl, rfl, rfl⟩ rfl rfl rfl rfl rfl (by kernel_rfl) Tryd.func3 (by kernel_rfl)
    (of_decide_eq_true (by kernel_rfl)) (by unfold Func.isWrapper; first | (rw [if_pos (by decide +kernel)]; kernel_rfl) | (rw [if_neg (by decide +kernel)]; exact ⟨rfl, rfl⟩))
    (fun os started H enc _ F => by rw [OpenClaim.pre_eq_preRow]; exact lifted os started H enc F)

theorem plain (f : FuncId) (fn : Func) (hf : Tryd.pinned.checked.prog.funcNamed "loop.example/g00466/laws.FnNumbers" = some f) (hfn : Tryd.pinned.checked.prog.funcs[f]? = some fn) :
    false = Tryd.pinned.checked.prog.looks [] ∧ ∀ (j : Nat) t, fn.params[j]? = some t → Tryd.pinned.checked.prog.wantsStandIn t = false := by
  obtain rfl : f = 3 := Option.some.inj ((show Tryd.prog.funcNamed "loop.example/g00466/laws.FnNumbers" = some 3 by kernel_rfl).symm.trans hf) |>.symm
  obtain rfl : fn = Tryd.f3 := (Option.some.inj (Tryd.func3.symm.trans hfn)).symm
  refine ⟨by kernel_rfl, fun j t ht => ?_⟩
  rw [Tryd.params3] at ht
  obtain rfl : t = 22 := by simpa using Array.mem_of_getElem? ht
  exact (show Tryd.prog.wantsStandIn 22 = false by kernel_rfl)
end fnNumbers

theorem fnNumbers_card : Rows.FnNumbersCardSaid :=
  Claim7.holds_tied_plain_at .later [] _ _ _ _ fnNumbers.said (fun _ h => by cases h) (by kernel_rfl) (fun _ h => by cases h) fnNumbers_row_tie rfl ⟨rfl, rfl⟩ (by kernel_rfl) rfl fnNumbers.plain (by kernel_rfl)
#print axioms fnNumbers_card
end Go.Proofs.YtbnpllcmjkapmaaDoor
