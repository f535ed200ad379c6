/- Sealed bytes (chapter 26): the tag, AeadSeal, of the program and of the specification. -/
import Derived.Test.YtkcbolcodgmpaaaSpl25
import Derived.Test.YtkcbolcodgmpaaaStreamS24
import Derived.Test.YtkcbolcodgmpaaaXor24
import Derived.Test.YtkcbolcodgmpaaaTag26
import Derived.WalkKit
import Derived.WalkLawsBesides
import Derived.WalkSpells
import Derived.BigRegion
import Derived.Below
import Derived.OwnWalk
import Derived.PlainAid
namespace Go.Proofs.Ytkcbolcodgmpaaa
open Go.RowKit Go.PlainAid
set_option maxRecDepth 20000
set_option linter.unusedVariables false
set_option linter.unusedSimpArgs false
theorem stream_le (key nonce : ByteArray) (c n : Int) : (streamT key nonce c n).size ≤ 10000 := by
  unfold streamT
  split
  · rename_i h
    unfold streamOk at h
    simp only [Bool.and_eq_true, decide_eq_true_eq] at h
    rw [ByteArray.size_extract]; omega
  · exact Nat.zero_le _
theorem xor_le (a b : ByteArray) : (xorT a b).size ≤ a.size := by unfold xorT; rw [strOf_size]; omega
theorem pad_le (a : ByteArray) : (padT a).size ≤ a.size + 16 := Nat.le_trans (padT_size a) (by omega)
theorem tagIn_le {a b : ByteArray} (ha : a.size ≤ 1048576) (hb : b.size ≤ 1048576) : (tagIn a b).size ≤ 1000000000 := by
  have h1 := pad_le a
  have h2 := pad_le b
  unfold tagIn
  rw [sz_app, sz_app, sz_app, eightT_size, eightT_size]
  omega
/-- What the tag is, and whether there is one. -/
def tagB (key nonce : ByteArray) : Bool := streamOk key nonce 0 32 && decide ((streamT key nonce 0 32).size = 32)
def tagT (key nonce beside sealed : ByteArray) : ByteArray := if streamOk key nonce 0 32 = true then polyT (streamT key nonce 0 32) (tagIn beside sealed) else ⟨#[]⟩
theorem poly_le (key t : ByteArray) : (polyT key t).size ≤ 16 := by
  unfold polyT
  split
  · unfold adT; rw [strOf_size]; omega
  · exact Nat.zero_le _
theorem tag_le (key nonce a b : ByteArray) : (tagT key nonce a b).size ≤ 16 := by
  unfold tagT
  split
  · exact poly_le _ _
  · exact Nat.zero_le _
set_option maxHeartbeats 800000 in
theorem specTag_any (key nonce a b : ByteArray) (w : World) (ha : a.size ≤ 1048576) (hb : b.size ≤ 1048576) :
    Calls Try.prog 8 #[.string key, .string nonce, .string a, .string b] w fun e w' => e = .returned (.tuple #[.string (tagT key nonce a b), .bool (tagB key nonce)]) ∧ Below w.heap.size w w' := by
  have H1 : Hid (∀ wz : World, _) := fun wz => specStream_any key nonce 0 32 wz
  have H2 : Hid (∀ wz : World, _) := fun wz => specTagIn_any a b wz ha hb
  have H3 : Hid (∀ wz : World, _) := fun wz => specPoly_any (streamT key nonce 0 32) (tagIn a b) wz (tagIn_le ha hb)
  have HT : Hid (tagT key nonce a b = if streamOk key nonce 0 32 = true then polyT (streamT key nonce 0 32) (tagIn a b) else ⟨#[]⟩) := rfl
  have HB : Hid (tagB key nonce = (streamOk key nonce 0 32 && decide ((streamT key nonce 0 32).size = 32))) := rfl
  generalize polyT (streamT key nonce 0 32) (tagIn a b) = P at H3 HT
  generalize decide ((streamT key nonce 0 32).size = 32) = Bp at H3 HB
  generalize tagIn a b = I at H2 H3
  generalize streamT key nonce 0 32 = S at H1 H3
  go_enter Try.func8, Try.ntmps8
  go_wp2_with fail
  refine Calls.mono (H1.out _) ?_
  rintro e w1 ⟨rfl, hb1⟩
  cases hk : streamOk key nonce 0 32
  · rw [hk] at HT HB
    go_wp2
    go_ret2
    exact ⟨by rw [HT.out, HB.out]; rfl, hb1⟩
  · rw [hk] at HT HB
    go_wp2_with fail
    refine Calls.mono (H2.out _) ?_
    rintro e w2 ⟨rfl, hb2⟩
    go_wp2_with fail
    refine Calls.mono (H3.out _) ?_
    rintro e w3 ⟨rfl, hb3⟩
    have HBB : Hid (Below w.heap.size w w3) := (hb1.trans (hb2.mono hb1.size)).trans (hb3.mono (hb1.trans (hb2.mono hb1.size)).size)
    clear hb1 hb2 hb3
    go_wp2
    go_ret2
    exact ⟨by rw [HT.out, HB.out]; simp, HBB.out⟩
set_option maxHeartbeats 800000 in
theorem implTag_any (key nonce a b : ByteArray) (w : World) (ha : a.size ≤ 1048576) (hb : b.size ≤ 1048576) :
    Calls Try.prog 10 #[.string key, .string nonce, .string a, .string b] w fun e w' => e = .returned (.tuple #[.string (tagT key nonce a b), .bool (tagB key nonce)]) ∧ Below w.heap.size w w' := by
  have H1 : Hid (∀ wz : World, _) := fun wz => implStream_any key nonce 0 32 wz
  have H2 : Hid (∀ wz : World, _) := fun wz => implTagIn_any a b wz ha hb
  have H3 : Hid (∀ wz : World, _) := fun wz => implPoly_any (streamT key nonce 0 32) (tagIn a b) wz (tagIn_le ha hb)
  have HT : Hid (tagT key nonce a b = if streamOk key nonce 0 32 = true then polyT (streamT key nonce 0 32) (tagIn a b) else ⟨#[]⟩) := rfl
  have HB : Hid (tagB key nonce = (streamOk key nonce 0 32 && decide ((streamT key nonce 0 32).size = 32))) := rfl
  generalize polyT (streamT key nonce 0 32) (tagIn a b) = P at H3 HT
  generalize decide ((streamT key nonce 0 32).size = 32) = Bp at H3 HB
  generalize tagIn a b = I at H2 H3
  generalize streamT key nonce 0 32 = S at H1 H3
  go_enter Try.func10, Try.ntmps10
  go_wp2_with fail
  refine Calls.mono (H1.out _) ?_
  rintro e w1 ⟨rfl, hb1⟩
  cases hk : streamOk key nonce 0 32
  · rw [hk] at HT HB
    go_wp2
    go_ret2
    exact ⟨by rw [HT.out, HB.out]; rfl, hb1⟩
  · rw [hk] at HT HB
    go_wp2_with fail
    refine Calls.mono (H2.out _) ?_
    rintro e w2 ⟨rfl, hb2⟩
    go_wp2_with fail
    refine Calls.mono (H3.out _) ?_
    rintro e w3 ⟨rfl, hb3⟩
    have HBB : Hid (Below w.heap.size w w3) := (hb1.trans (hb2.mono hb1.size)).trans (hb3.mono (hb1.trans (hb2.mono hb1.size)).size)
    clear hb1 hb2 hb3
    go_wp2
    go_ret2
    exact ⟨by rw [HT.out, HB.out]; simp, HBB.out⟩
/-- What AeadSeal answers. -/
def sealB (key nonce text : ByteArray) : Bool := decide (text.size ≤ 5000) && (streamOk key nonce 1 (text.size : Int) && tagB key nonce)
def sealX (key nonce text : ByteArray) : ByteArray := xorT text (streamT key nonce 1 (text.size : Int))
def sealT (key nonce beside text : ByteArray) : ByteArray := if sealB key nonce text = true then sealX key nonce text ++ tagT key nonce beside (sealX key nonce text) else ⟨#[]⟩
theorem sealX_le (key nonce text : ByteArray) : (sealX key nonce text).size ≤ text.size := xor_le _ _
set_option maxHeartbeats 800000 in
theorem over_any (key nonce text : ByteArray) (w : World) (ht : text.size ≤ 1048576) :
    Calls Try.prog 9 #[.string key, .string nonce, .string text] w fun e w' => e = .returned (.tuple #[.string (sealX key nonce text), .bool (streamOk key nonce 1 (text.size : Int))]) ∧ Below w.heap.size w w' := by
  have H1 : Hid (∀ wz : World, _) := fun wz => implStream_any key nonce 1 (text.size : Int) wz
  have H2 : Hid (∀ wz : World, _) := fun wz => implXor_any text (streamT key nonce 1 (text.size : Int)) wz ht (by have := stream_le key nonce 1 (text.size : Int); omega)
  have HX : Hid (sealX key nonce text = xorT text (streamT key nonce 1 (text.size : Int))) := rfl
  generalize xorT text (streamT key nonce 1 (text.size : Int)) = X at H2 HX
  generalize streamT key nonce 1 (text.size : Int) = S at H1 H2
  generalize hK : streamOk key nonce 1 (text.size : Int) = K at H1
  have HK : Hid (streamOk key nonce 1 (text.size : Int) = K) := hK
  clear hK
  go_enter Try.func9, Try.ntmps9
  go_wp2_with fail
  refine Calls.mono (H1.out _) ?_
  rintro e w1 ⟨rfl, hb1⟩
  go_wp2_with fail
  refine Calls.mono (H2.out _) ?_
  rintro e w2 ⟨rfl, hb2⟩
  have HBB : Hid (Below w.heap.size w w2) := hb1.trans (hb2.mono hb1.size)
  clear hb1 hb2
  go_wp2
  go_ret2
  exact ⟨by rw [HX.out]; (try rw [HK.out]); rfl, HBB.out⟩
set_option maxHeartbeats 1600000 in
theorem implSeal_any (key nonce a text : ByteArray) (w : World) (ha : a.size ≤ 1048576) (ht : text.size ≤ 1048576) :
    Calls Try.prog 5 #[.string key, .string nonce, .string a, .string text] w fun e w' => e = .returned (.tuple #[.string (sealT key nonce a text), .bool (sealB key nonce text)]) ∧ Below w.heap.size w w' := by
  have H1 : Hid (∀ wz : World, _) := fun wz => over_any key nonce text wz ht
  have H2 : Hid (∀ wz : World, _) := fun wz => implTag_any key nonce a (sealX key nonce text) wz ha (by have := sealX_le key nonce text; omega)
  have HT : Hid (sealT key nonce a text = if sealB key nonce text = true then sealX key nonce text ++ tagT key nonce a (sealX key nonce text) else ⟨#[]⟩) := rfl
  have HB : Hid (sealB key nonce text = (decide (text.size ≤ 5000) && (streamOk key nonce 1 (text.size : Int) && tagB key nonce))) := rfl
  by_cases hn : text.size ≤ 5000
  · have hq : ¬ (5000 : Int) < (text.size : Int) := by omega
    rw [decide_eq_true hn, Bool.true_and] at HB
    have hTl := tag_le key nonce a (sealX key nonce text)
    have hXl := sealX_le key nonce text
    generalize tagT key nonce a (sealX key nonce text) = T at H2 HT hTl
    generalize sealX key nonce text = X at H1 H2 HT hXl
    rw [HB.out] at HT
    generalize streamOk key nonce 1 (text.size : Int) = K at H1 HT HB
    generalize tagB key nonce = L at H2 HT HB
    go_enter Try.func5, Try.ntmps5
    go_wp2_with fail
    refine Calls.mono (H1.out _) ?_
    rintro e w1 ⟨rfl, hb1⟩
    go_wp2_with fail
    refine Calls.mono (H2.out _) ?_
    rintro e w2 ⟨rfl, hb2⟩
    have HBB : Hid (Below w.heap.size w w2) := hb1.trans (hb2.mono hb1.size)
    clear hb1 hb2
    cases K <;> cases L
    all_goals
      go_wp2
      go_ret2
      exact ⟨by rw [HT.out, HB.out]; rfl, HBB.out⟩
  · have hq : (5000 : Int) < (text.size : Int) := by omega
    rw [decide_eq_false hn, Bool.false_and] at HB
    rw [HB.out] at HT
    go_enter Try.func5, Try.ntmps5
    go_wp2
    go_ret2
    exact ⟨by rw [HT.out, HB.out]; rfl, Below.refl _ _⟩
set_option maxHeartbeats 1600000 in
theorem specSeal_any (key nonce a text : ByteArray) (w : World) (ha : a.size ≤ 1048576) (ht : text.size ≤ 1048576) :
    Calls Try.prog 4 #[.string key, .string nonce, .string a, .string text] w fun e w' => e = .returned (.tuple #[.string (sealT key nonce a text), .bool (sealB key nonce text)]) ∧ Below w.heap.size w w' := by
  have H1 : Hid (∀ wz : World, _) := fun wz => specStream_any key nonce 1 (text.size : Int) wz
  have H0 : Hid (∀ wz : World, _) := fun wz => specXor_any text (streamT key nonce 1 (text.size : Int)) wz ht (by have := stream_le key nonce 1 (text.size : Int); omega)
  have H2 : Hid (∀ wz : World, _) := fun wz => specTag_any key nonce a (sealX key nonce text) wz ha (by have := sealX_le key nonce text; omega)
  have HX : Hid (xorT text (streamT key nonce 1 (text.size : Int)) = sealX key nonce text) := rfl
  rw [HX.out] at H0
  have HT : Hid (sealT key nonce a text = if sealB key nonce text = true then sealX key nonce text ++ tagT key nonce a (sealX key nonce text) else ⟨#[]⟩) := rfl
  have HB : Hid (sealB key nonce text = (decide (text.size ≤ 5000) && (streamOk key nonce 1 (text.size : Int) && tagB key nonce))) := rfl
  clear HX
  by_cases hn : text.size ≤ 5000
  · have hq : ¬ (5000 : Int) < (text.size : Int) := by omega
    rw [decide_eq_true hn, Bool.true_and] at HB
    have hTl := tag_le key nonce a (sealX key nonce text)
    have hXl := sealX_le key nonce text
    generalize tagT key nonce a (sealX key nonce text) = T at H2 HT hTl
    generalize sealX key nonce text = X at H0 H2 HT hXl
    rw [HB.out] at HT
    generalize streamT key nonce 1 (text.size : Int) = S at H0 H1
    generalize streamOk key nonce 1 (text.size : Int) = K at H1 HT HB
    generalize tagB key nonce = L at H2 HT HB
    go_enter Try.func4, Try.ntmps4
    go_wp2_with fail
    refine Calls.mono (H1.out _) ?_
    rintro e w1 ⟨rfl, hb1⟩
    cases K
    · go_wp2
      go_ret2
      exact ⟨by rw [HT.out, HB.out]; rfl, hb1⟩
    · go_wp2_with fail
      refine Calls.mono (H0.out _) ?_
      rintro e w2 ⟨rfl, hb2⟩
      go_wp2_with fail
      refine Calls.mono (H2.out _) ?_
      rintro e w3 ⟨rfl, hb3⟩
      have HBB : Hid (Below w.heap.size w w3) := (hb1.trans (hb2.mono hb1.size)).trans (hb3.mono (hb1.trans (hb2.mono hb1.size)).size)
      clear hb1 hb2 hb3
      cases L
      all_goals
        go_wp2
        go_ret2
        exact ⟨by rw [HT.out, HB.out]; rfl, HBB.out⟩
  · have hq : (5000 : Int) < (text.size : Int) := by omega
    rw [decide_eq_false hn, Bool.false_and] at HB
    rw [HB.out] at HT
    go_enter Try.func4, Try.ntmps4
    go_wp2
    go_ret2
    exact ⟨by rw [HT.out, HB.out]; rfl, Below.refl _ _⟩
end Go.Proofs.Ytkcbolcodgmpaaa
