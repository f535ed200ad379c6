/- The program's names (chapter 10): they stand in a map, each with the number of its long secret. -/
import Derived.Test.YtffnadnndmmliaaCert10
import Derived.Test.YtffnadnndmmliaaTold7
import Derived.WalkKit
import Derived.WalkLawsBesides
import Derived.WalkSpells
import Derived.Maps.Own
import Derived.Maps.OwnOps
import Derived.Maps.OwnSet
import Derived.WalkArith
namespace Go.Proofs.Ytffnadnndmmliaa
open Go.RowKit Go.Maps
set_option linter.unusedVariables false
theorem intKeyed : Keyed Try.prog 3 := int_keyed Try.underlying3
theorem keyInt {x : Int} (h : (Lit.int .i64 x).wf = true) : keyOf Try.prog 3 (.int .i64 x) = some (.int .i64 x) := keyOf_int_mk Try.underlying3 h
theorem isKeyInt {x : Int} (h : (Lit.int .i64 x).wf = true) : WideAt.IsKeyLit (Lit.int .i64 x) := intKeyed.key (keyInt h)
/-- What the map of names holds when the first n of them stand there. -/
structure NamesD (n : Int) (D : DataW Unit) : Prop where
  tidy : Tidy D
  has : ∀ x : Int, Maps.has D (.int .i64 x) = decide (0 ≤ x ∧ x < n)
  at' : ∀ x : Int, 0 ≤ x → x < n → ∀ z, D.atKey (.int .i64 x) z = .lit (.int .i64 (2000 + x))
theorem NamesD.start : NamesD 0 (.map []) := ⟨tidy_empty, fun x => by simp [Maps.has], fun x h h2 => by omega⟩
theorem litInt_ne {x y : Int} (h : ¬ x = y) : Lit.int .i64 x ≠ Lit.int .i64 y := fun e => h (by cases e; rfl)
set_option maxRecDepth 100000 in
theorem NamesD.next {n : Int} {D : DataW Unit} (h : NamesD n D) (hn : 0 ≤ n) (hw : (Lit.int .i64 n).wf = true) : NamesD (n + 1) (D.put (.int .i64 n) (.lit (.int .i64 (2000 + n)))) := by
  refine ⟨h.tidy.put (isKeyInt hw) _, fun x => ?_, fun x h0 h1 z => ?_⟩
  · by_cases e : x = n
    · subst e
      rw [has_put_same h.tidy.isMap (isKeyInt hw)]; simp; omega
    · rw [has_put_other (litInt_ne e), h.has x]
      rw [decide_eq_decide]; omega
  · by_cases e : x = n
    · subst e
      rw [atKey_put_same h.tidy.isMap (isKeyInt hw)]
    · rw [atKey_put_other (litInt_ne e)]
      exact h.at' x h0 (by omega) z
theorem zeroIntN (w : World) : (zeroValue 3).run Try.prog w = .ok (.int .i64 0) w := by kernel_rfl
theorem make_names (w : World) : (Instr.makeMap 179 (some (.int .i64 10))).run Try.prog w = .ok (.map (some w.heap.size)) (w.alloc (.map #[] 0)) := by kernel_rfl
set_option maxHeartbeats 1600000 in
set_option maxRecDepth 100000 in
theorem longNums_any (w : World) :
    Calls Try.prog 177 #[] w fun e w' => ∃ D, e = .returned (.map (some w.heap.size)) ∧ w'.ownsMap Try.prog 3 (plainElem Try.prog 3) w.heap.size 10 D ∧ Hid (NamesD 10 D ∧ Below w.heap.size w w') := by
  have hmm := make_names
  go_enter Try.func177, Try.ntmps177
  go_wp2
  go_loopw [4] (fun i wr => ∃ (k : Nat) (D : DataW Unit), k ≤ 10 ∧ i = .int .i64 (k : Int) ∧ wr.ownsMap Try.prog 3 (plainElem Try.prog 3) w.heap.size k D ∧ NamesD (k : Int) D ∧ Below w.heap.size w wr)
    (fun i _ => 10 - (intOf i).toNat)
  case atStart => exact ⟨0, .map [], Nat.zero_le _, rfl, World.ownsMap_made _ _ _ _, NamesD.start, (Below.refl _ _).alloc (Nat.le_refl _) _⟩
  case round =>
    obtain ⟨k, D, hk, rfl, hown, hpd, hbel⟩ := hrel
    by_cases hlt : k < 10
    · have hw : (Lit.int .i64 (k : Int)).wf = true := WalkArith.wf_i64 (by omega)
      have hi1 : (k : Int) < 10 := by omega
      have HK : Hid _ := keyInt hw
      have HN : Hid (NamesD ((k + 1 : Nat) : Int) (D.put (.int .i64 (k : Int)) (.lit (.int .i64 (2000 + (k : Int)))))) := by
        have := hpd.next (by omega) hw
        exact (by push_cast; exact this : NamesD ((k + 1 : Nat) : Int) _)
      have hbs := hbel.size
      clear hpd hw
      go_wp2_with (at_mapUpdate; refine wpList_mapUpdate_own _ rfl _ _ _ 179 rfl 3 3 intKeyed Try.underlying179 _ w.heap.size k D rfl hown ?c1 _ _ _ rfl rfl HK.out _ [] (plainElem_int Try.underlying3 ?c2) ?_; rotate_left 2; intro w1 hown1 hgrow1)
      case c1 => unfold maxLen; omega
      case c2 => exact WalkArith.wf_i64 (by omega)
      go_roundw
      case rel => exact ⟨k + 1, _, by omega, by go_num, hown1, HN.out, hbel.grown hgrow1 hbs (fun j hj => by cases hj; exact Nat.le_refl _)⟩
      case measure => simp [intOf]; omega
    · obtain rfl : k = 10 := by omega
      go_wp2
      go_ret
      exact ⟨D, rfl, hown, hpd, hbel⟩
theorem nmB_is (x : Int) : nmB x = decide (0 ≤ x ∧ x < 10) := by
  unfold nmB inB
  rw [Bool.eq_iff_iff]
  simp
  omega
set_option maxHeartbeats 1600000 in
set_option maxRecDepth 100000 in
theorem isName_any (x : Int) (w : World) (hx : (Lit.int .i64 x).wf = true) :
    Calls Try.prog 176 #[.int .i64 x] w fun e w' => e = .returned (.bool (nmB x)) ∧ Below w.heap.size w w' := by
  have HK : Hid _ := keyInt hx
  have HC : Hid _ := longNums_any w
  clear hx
  go_enter Try.func176, Try.ntmps176
  go_wp2_with fail
  refine Calls.mono HC.out ?_
  rintro e w1 ⟨D, rfl, hown, HD⟩
  obtain ⟨b, hb⟩ : ∃ b, Maps.has D (.int .i64 x) = b := ⟨_, rfl⟩
  have HB : Hid (nmB x = b) := by show _ = _; rw [nmB_is, ← hb, HD.out.1.has x]
  go_wp2_with (at_lookup; refine wpList_lookup_own_ok_int _ rfl _ _ 179 rfl 3 3 .i64 intKeyed Try.underlying179 Try.underlying3 (zeroIntN _) w.heap.size 10 D rfl hown _ _ rfl HK.out ?_; intro c hat hwc)
  go_ret
  exact ⟨by rw [HB.out]; rfl, HD.out.2⟩
/-- A name's long secret, as it is told. -/
def longT (x : Int) : Tl := if nmB x = true then .atom (2000 + x) else .pl (-1)
theorem longT_f (x : Int) (ns : List Nd) : (longT x).f ns = (lgA ns x, lgK ns x) := by
  unfold longT lgA lgK
  by_cases h : nmB x = true
  · rw [if_pos h, if_pos h, if_pos h]; rfl
  · rw [if_neg h, if_neg h, if_neg h]; rfl
theorem longT_wf (x : Int) : (longT x).Wf := by
  unfold longT
  by_cases h : nmB x = true
  · rw [if_pos h]
    rw [nmB_is] at h
    have := of_decide_eq_true h
    exact WalkArith.wf_i64 (by omega)
  · rw [if_neg h]; exact WalkArith.wf_i64 (by omega)
set_option maxHeartbeats 1600000 in
theorem toldNone_any {L : Nat} (w : World) (hL : L ≤ w.heap.size) : Calls Try.prog 178 #[] w (ToldP L (.pl (-1)) w) := by
  have HC : Hid (Calls Try.prog 115 #[.int .i64 (-1)] w (ToldP L (.pl (-1)) w)) := toldAt_any (-1) w hL
  clear hL
  go_enter Try.func178, Try.ntmps178
  go_wp2_with fail
  refine Calls.mono HC.out ?_
  rintro e w2 ⟨v2, rfl, h2, hb2⟩
  have H2 : Hid (ToldP L (.pl (-1)) w (.returned v2) w2) := ⟨_, rfl, h2, hb2⟩
  clear h2 hb2
  go_wp2
  go_ret
  exact H2.out
theorem ToldP.after {L : Nat} {t : Tl} {w w1 w2 : World} {e : Ending} (hb : Below w.heap.size w w1) (h : ToldP L t w1 e w2) : ToldP L t w e w2 := by
  obtain ⟨v, h1, h2, h3⟩ := h
  exact ⟨v, h1, h2, hb.trans (h3.mono hb.size)⟩
set_option maxHeartbeats 1600000 in
set_option maxRecDepth 100000 in
theorem toldLong_any {L : Nat} (x : Int) (w : World) (hL : L ≤ w.heap.size) (hx : (Lit.int .i64 x).wf = true) : Calls Try.prog 134 #[.int .i64 x] w (ToldP L (longT x) w) := by
  have HK : Hid _ := keyInt hx
  have HC : Hid _ := longNums_any w
  clear hx
  have HL : Hid (L ≤ w.heap.size) := hL
  clear hL
  go_enter Try.func134, Try.ntmps134
  go_wp2_with fail
  refine Calls.mono HC.out ?_
  rintro e w1 ⟨D, rfl, hown, HD⟩
  cases hb : Maps.has D (.int .i64 x) with
  | true =>
    have HB : Hid (nmB x = true ∧ D.atKey (Lit.int .i64 x) (.lit (.int .i64 0)) = .lit (.int .i64 (2000 + x))) := by
      have h1 := hb
      rw [HD.out.1.has x] at h1
      have h2 := of_decide_eq_true h1
      exact ⟨by rw [nmB_is]; exact h1, HD.out.1.at' x h2.1 h2.2 _⟩
    go_wp2_with (first | (at_lookup; refine wpList_lookup_own_ok_int _ rfl _ _ 179 rfl 3 3 .i64 intKeyed Try.underlying179 Try.underlying3 (zeroIntN _) w.heap.size 10 D rfl hown _ _ rfl HK.out ?_; intro c hat hwc) | fail)
    obtain rfl : 2000 + x = c := by have := HB.out.2; rw [hat] at this; cases this; rfl
    refine Calls.mono (toldAtom_any (L := L) (2000 + x) w1 (Nat.le_trans HL.out HD.out.2.size)) ?_
    intro e w2 h2
    have H2 : Hid (ToldP L (longT x) w e w2) := by
      have : longT x = .atom (2000 + x) := by unfold longT; rw [if_pos HB.out.1]
      show ToldP L (longT x) w e w2
      rw [this]; exact ToldP.after HD.out.2 h2
    obtain ⟨v2, rfl, -⟩ := h2
    clear hat hwc hown
    go_wp2
    go_ret
    exact H2.out
  | false =>
    have HB : Hid (nmB x = false) := by
      show _ = _
      rw [nmB_is, ← HD.out.1.has x]; exact hb
    go_wp2_with (first | (at_lookup; refine wpList_lookup_own_ok_int _ rfl _ _ 179 rfl 3 3 .i64 intKeyed Try.underlying179 Try.underlying3 (zeroIntN _) w.heap.size 10 D rfl hown _ _ rfl HK.out ?_; intro c hat hwc) | fail)
    refine Calls.mono (toldNone_any (L := L) w1 (Nat.le_trans HL.out HD.out.2.size)) ?_
    intro e w2 h2
    have H2 : Hid (ToldP L (longT x) w e w2) := by
      have : longT x = .pl (-1) := by unfold longT; rw [if_neg (by rw [HB.out]; decide)]
      show ToldP L (longT x) w e w2
      rw [this]; exact ToldP.after HD.out.2 h2
    obtain ⟨v2, rfl, -⟩ := h2
    clear hat hwc hown
    go_wp2
    go_ret
    exact H2.out
/-- The secret of two names, as it is told. -/
def pskT (x y : Int) : Tl := if pkB x y = true then .atom (pkN x y) else .pl (-1)
theorem pskT_f (x y : Int) (ns : List Nd) : (pskT x y).f ns = (pkA ns x y, pkK ns x y) := by
  unfold pskT pkA pkK
  by_cases h : pkB x y = true
  · rw [if_pos h, if_pos h, if_pos h]; rfl
  · rw [if_neg h, if_neg h, if_neg h]; rfl
theorem pkB_is (x y : Int) : pkB x y = (nmB x && nmB y) := rfl
theorem pskT_wf (x y : Int) : (pskT x y).Wf := by
  unfold pskT
  by_cases h : pkB x y = true
  · rw [if_pos h]
    rw [pkB_is, nmB_is, nmB_is] at h
    simp at h
    have h2 : 3000 ≤ pkN x y ∧ pkN x y ≤ 3200 := by unfold pkN; split <;> omega
    exact WalkArith.wf_i64 (by omega)
  · rw [if_neg h]; exact WalkArith.wf_i64 (by omega)
set_option maxHeartbeats 1600000 in
set_option maxRecDepth 100000 in
theorem toldPsk_any {L : Nat} (x y : Int) (w : World) (hL : L ≤ w.heap.size) (hx : (Lit.int .i64 x).wf = true) (hy : (Lit.int .i64 y).wf = true) : Calls Try.prog 136 #[.int .i64 x, .int .i64 y] w (ToldP L (pskT x y) w) := by
  have HX : Hid _ := isName_any x w hx
  have HY : Hid (∀ w1, Calls Try.prog 176 #[.int .i64 y] w1 fun e w' => e = .returned (.bool (nmB y)) ∧ Below w1.heap.size w1 w') := fun w1 => isName_any y w1 hy
  have HL : Hid (L ≤ w.heap.size) := hL
  have HN : Hid (∀ w1, Below w.heap.size w w1 → pkB x y = false → Calls Try.prog 178 #[] w1 (ToldP L (pskT x y) w)) := fun w1 hb h => by
    refine Calls.mono (toldNone_any (L := L) w1 (Nat.le_trans hL hb.size)) ?_
    intro e w2 h2
    have : pskT x y = .pl (-1) := by unfold pskT; rw [if_neg (by rw [h]; decide)]
    rw [this]; exact ToldP.after hb h2
  have HA : Hid (∀ w1, Below w.heap.size w w1 → pkB x y = true → Calls Try.prog 117 #[.int .i64 (pkN x y)] w1 (ToldP L (pskT x y) w)) := fun w1 hb h => by
    refine Calls.mono (toldAtom_any (L := L) (pkN x y) w1 (Nat.le_trans hL hb.size)) ?_
    intro e w2 h2
    have : pskT x y = .atom (pkN x y) := by unfold pskT; rw [if_pos h]
    rw [this]; exact ToldP.after hb h2
  clear hx hy hL
  go_enter Try.func136, Try.ntmps136
  go_wp2_with fail
  refine Calls.mono HX.out ?_
  rintro e w1 ⟨rfl, hb1⟩
  cases hbx : nmB x with
  | false =>
    have HC : Hid _ := HN.out w1 hb1 (by rw [pkB_is, hbx]; rfl)
    clear hb1 hbx HN HA HX HY
    go_wp2_with fail
    refine Calls.mono HC.out ?_
    rintro e w2 h2
    have H2 : Hid (ToldP L (pskT x y) w e w2) := h2
    obtain ⟨v2, rfl, -⟩ := h2
    go_wp2
    go_ret
    exact H2.out
  | true =>
    go_wp2_with fail
    refine Calls.mono (HY.out _) ?_
    rintro e w2 ⟨rfl, hb2⟩
    have hb3 : Below w.heap.size w w2 := hb1.trans (hb2.mono hb1.size)
    cases hby : nmB y with
    | false =>
      have HC : Hid _ := HN.out w2 hb3 (by rw [pkB_is, hbx, hby]; rfl)
      clear hb1 hb2 hb3 hbx hby HN HA HX HY
      go_wp2_with fail
      refine Calls.mono HC.out ?_
      rintro e w3 h2
      have H2 : Hid (ToldP L (pskT x y) w e w3) := h2
      obtain ⟨v2, rfl, -⟩ := h2
      go_wp2
      go_ret
      exact H2.out
    | true =>
      have HC : Hid _ := HA.out w2 hb3 (by rw [pkB_is, hbx, hby]; rfl)
      have hx : 0 ≤ x ∧ x < 10 := by have := hbx; rw [nmB_is] at this; exact of_decide_eq_true this
      have hy : 0 ≤ y ∧ y < 10 := by have := hby; rw [nmB_is] at this; exact of_decide_eq_true this
      obtain ⟨hx0, hx1⟩ := hx
      obtain ⟨hy0, hy1⟩ := hy
      clear hb1 hb2 hb3 hbx hby HN HA HX HY
      by_cases hxy : y < x
      · have hp : pkN x y = 3000 + 10 * y + x := by unfold pkN; rw [if_pos hxy]
        rw [hp] at HC
        clear hp
        go_wp2_with fail
        refine Calls.mono HC.out ?_
        rintro e w3 h2
        have H2 : Hid (ToldP L (pskT x y) w e w3) := h2
        obtain ⟨v2, rfl, -⟩ := h2
        go_wp2
        go_ret
        exact H2.out
      · rcases Int.lt_trichotomy x y with hlt | rfl | hgt
        · have hp : pkN x y = 3000 + 10 * x + y := by unfold pkN; rw [if_neg hxy]
          rw [hp] at HC
          clear hp hxy
          go_wp2_with fail
          refine Calls.mono HC.out ?_
          rintro e w3 h2
          have H2 : Hid (ToldP L (pskT x y) w e w3) := h2
          obtain ⟨v2, rfl, -⟩ := h2
          go_wp2
          go_ret
          exact H2.out
        · have hp : pkN x x = 3000 + 10 * x + x := by unfold pkN; rw [if_neg hxy]
          rw [hp] at HC
          clear hp hxy
          go_wp2_with fail
          refine Calls.mono HC.out ?_
          rintro e w3 h2
          have H2 : Hid (ToldP L (pskT x x) w e w3) := h2
          obtain ⟨v2, rfl, -⟩ := h2
          go_wp2
          go_ret
          exact H2.out
        · exact absurd hgt hxy
end Go.Proofs.Ytffnadnndmmliaa
