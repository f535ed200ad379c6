/- The program's names (chapter 10): they stand in a map, each with the number of its long secret. -/
import Derived.Test.YtaanophnnkmkbaaGreatCert10
import Derived.Test.YtaanophnnkmkbaaGreatTold7
import Derived.WalkKit
import Derived.WalkLawsBesides
import Derived.WalkSpells
import Derived.Maps.Own
import Derived.Maps.OwnOps
import Derived.Maps.OwnSet
import Derived.WalkArith
import Derived.OpenShut
import Derived.Test.YtaanophnnkmkbaaGreatRegionK
import Derived.Test.YtaanophnnkmkbaaGreatLawKeep
namespace Go.Proofs.YtaanophnnkmkbaaGreat
open Go.RowKit Go.Maps
set_option linter.unusedVariables false
theorem intKeyed : Keyed Tryz.prog 3 := int_keyed Tryz.underlying3
theorem keyInt {x : Int} (h : (Lit.int .i64 x).wf = true) : keyOf Tryz.prog 3 (.int .i64 x) = some (.int .i64 x) := keyOf_int_mk Tryz.underlying3 h
theorem isKeyInt {x : Int} (h : (Lit.int .i64 x).wf = true) : WideAt.IsKeyLit (Lit.int .i64 x) := intKeyed.key (keyInt h)
/-- What the map of names holds when the first n of them stand there. -/
structure NamesD (n : Int) (D : DataW Unit) : Prop where
  tidy : Tidy D
  has : ∀ x : Int, Maps.has D (.int .i64 x) = decide (0 ≤ x ∧ x < n)
  at' : ∀ x : Int, 0 ≤ x → x < n → ∀ z, D.atKey (.int .i64 x) z = .lit (.int .i64 (2000 + x))
theorem NamesD.start : NamesD 0 (.map []) := ⟨tidy_empty, fun x => by simp [Maps.has], fun x h h2 => by omega⟩
theorem litInt_ne {x y : Int} (h : ¬ x = y) : Lit.int .i64 x ≠ Lit.int .i64 y := fun e => h (by cases e; rfl)
set_option maxRecDepth 100000 in
theorem NamesD.next {n : Int} {D : DataW Unit} (h : NamesD n D) (hn : 0 ≤ n) (hw : (Lit.int .i64 n).wf = true) : NamesD (n + 1) (D.put (.int .i64 n) (.lit (.int .i64 (2000 + n)))) := by
  refine ⟨h.tidy.put (isKeyInt hw) _, fun x => ?_, fun x h0 h1 z => ?_⟩
  · by_cases e : x = n
    · subst e
      rw [has_put_same h.tidy.isMap (isKeyInt hw)]; simp; omega
    · rw [has_put_other (litInt_ne e), h.has x]
      rw [decide_eq_decide]; omega
  · by_cases e : x = n
    · subst e
      rw [atKey_put_same h.tidy.isMap (isKeyInt hw)]
    · rw [atKey_put_other (litInt_ne e)]
      exact h.at' x h0 (by omega) z
theorem zeroIntN (w : World) : (zeroValue 3).run Tryz.prog w = .ok (.int .i64 0) w := by kernel_rfl
theorem make_names (w : World) : (Instr.makeMap 119 (some (.int .i64 10))).run Tryz.prog w = .ok (.map (some w.heap.size)) (w.alloc (.map #[] 0)) := by kernel_rfl
set_option maxHeartbeats 1600000 in
set_option maxRecDepth 100000 in
theorem longNums_any (w : World) :
    Calls Tryz.prog 93 #[] w fun e w' => ∃ D, e = .returned (.map (some w.heap.size)) ∧ w'.ownsMap Tryz.prog 3 (plainElem Tryz.prog 3) w.heap.size 10 D ∧ Hid (NamesD 10 D ∧ Below w.heap.size w w') := by
  have hmm := make_names
  go_enter Tryz.func93, Tryz.ntmps93
  go_wp2
  go_loopw [4] (fun i wr => ∃ (k : Nat) (D : DataW Unit), k ≤ 10 ∧ i = .int .i64 (k : Int) ∧ wr.ownsMap Tryz.prog 3 (plainElem Tryz.prog 3) w.heap.size k D ∧ NamesD (k : Int) D ∧ Below w.heap.size w wr)
    (fun i _ => 10 - (intOf i).toNat)
  case atStart => exact ⟨0, .map [], Nat.zero_le _, rfl, World.ownsMap_made _ _ _ _, NamesD.start, (Below.refl _ _).alloc (Nat.le_refl _) _⟩
  case round =>
    obtain ⟨k, D, hk, rfl, hown, hpd, hbel⟩ := hrel
    by_cases hlt : k < 10
    · have hw : (Lit.int .i64 (k : Int)).wf = true := WalkArith.wf_i64 (by omega)
      have hi1 : (k : Int) < 10 := by omega
      have HK : Hid _ := keyInt hw
      have HN : Hid (NamesD ((k + 1 : Nat) : Int) (D.put (.int .i64 (k : Int)) (.lit (.int .i64 (2000 + (k : Int)))))) := by
        have := hpd.next (by omega) hw
        exact (by push_cast; exact this : NamesD ((k + 1 : Nat) : Int) _)
      have hbs := hbel.size
      clear hpd hw
      go_wp2_with (at_mapUpdate; refine wpList_mapUpdate_own _ rfl _ _ _ 119 rfl 3 3 intKeyed Tryz.underlying119 _ w.heap.size k D rfl hown ?c1 _ _ _ rfl rfl HK.out _ [] (plainElem_int Tryz.underlying3 ?c2) ?_; rotate_left 2; intro w1 hown1 hgrow1)
      case c1 => unfold maxLen; omega
      case c2 => exact WalkArith.wf_i64 (by omega)
      go_roundw
      case rel => exact ⟨k + 1, _, by omega, by go_num, hown1, HN.out, hbel.grown hgrow1 hbs (fun j hj => by cases hj; exact Nat.le_refl _)⟩
      case measure => simp [intOf]; omega
    · obtain rfl : k = 10 := by omega
      go_wp2
      go_ret
      exact ⟨D, rfl, hown, hpd, hbel⟩
theorem nmB_is (x : Int) : nmB x = decide (0 ≤ x ∧ x < 10) := by
  unfold nmB inB
  rw [Bool.eq_iff_iff]
  simp
  omega
set_option maxHeartbeats 1600000 in
set_option maxRecDepth 100000 in
theorem isName_any (x : Int) (w : World) (hx : (Lit.int .i64 x).wf = true) :
    Calls Tryz.prog 113 #[.int .i64 x] w fun e w' => e = .returned (.bool (nmB x)) ∧ Below w.heap.size w w' := by
  have HK : Hid _ := keyInt hx
  have HC : Hid _ := longNums_any w
  clear hx
  go_enter Tryz.func113, Tryz.ntmps113
  go_wp2_with fail
  refine Calls.mono HC.out ?_
  rintro e w1 ⟨D, rfl, hown, HD⟩
  obtain ⟨b, hb⟩ : ∃ b, Maps.has D (.int .i64 x) = b := ⟨_, rfl⟩
  have HB : Hid (nmB x = b) := by show _ = _; rw [nmB_is, ← hb, HD.out.1.has x]
  go_wp2_with (at_lookup; refine wpList_lookup_own_ok_int _ rfl _ _ 119 rfl 3 3 .i64 intKeyed Tryz.underlying119 Tryz.underlying3 (zeroIntN _) w.heap.size 10 D rfl hown _ _ rfl HK.out ?_; intro c hat hwc)
  go_ret
  exact ⟨by rw [HB.out]; rfl, HD.out.2⟩
/-- A name's long secret, as it is told. -/
def longT (x : Int) : Tl := if nmB x = true then .atom (2000 + x) else .pl (-1)
theorem longT_f (x : Int) (ns : List Nd) : (longT x).f ns = (lgA ns x, lgK ns x) := by
  unfold longT lgA lgK
  by_cases h : nmB x = true
  · rw [if_pos h, if_pos h, if_pos h]; rfl
  · rw [if_neg h, if_neg h, if_neg h]; rfl
theorem longT_wf (x : Int) : (longT x).Wf := by
  unfold longT
  by_cases h : nmB x = true
  · rw [if_pos h]
    rw [nmB_is] at h
    have := of_decide_eq_true h
    exact WalkArith.wf_i64 (by omega)
  · rw [if_neg h]; exact WalkArith.wf_i64 (by omega)
set_option maxHeartbeats 1600000 in
theorem toldNone_any {L : Nat} (w : World) (hL : L ≤ w.heap.size) : Calls Tryz.prog 94 #[] w (ToldP L (.pl (-1)) w) := by
  have HC : Hid (Calls Tryz.prog 34 #[.int .i64 (-1)] w (ToldP L (.pl (-1)) w)) := toldAt_any (-1) w hL
  clear hL
  go_enter Tryz.func94, Tryz.ntmps94
  go_wp2_with fail
  refine Calls.mono HC.out ?_
  rintro e w2 ⟨v2, rfl, h2, hb2⟩
  have H2 : Hid (ToldP L (.pl (-1)) w (.returned v2) w2) := ⟨_, rfl, h2, hb2⟩
  clear h2 hb2
  go_wp2
  go_ret
  exact H2.out
theorem ToldP.after {L : Nat} {t : Tl} {w w1 w2 : World} {e : Ending} (hb : Below w.heap.size w w1) (h : ToldP L t w1 e w2) : ToldP L t w e w2 := by
  obtain ⟨v, h1, h2, h3⟩ := h
  exact ⟨v, h1, h2, hb.trans (h3.mono hb.size)⟩
set_option maxHeartbeats 1600000 in
set_option maxRecDepth 100000 in
theorem toldLong_any {L : Nat} (x : Int) (w : World) (hL : L ≤ w.heap.size) (hx : (Lit.int .i64 x).wf = true) : Calls Tryz.prog 59 #[.int .i64 x] w (ToldP L (longT x) w) := by
  have HK : Hid _ := keyInt hx
  have HC : Hid _ := longNums_any w
  clear hx
  have HL : Hid (L ≤ w.heap.size) := hL
  clear hL
  go_enter Tryz.func59, Tryz.ntmps59
  go_wp2_with fail
  refine Calls.mono HC.out ?_
  rintro e w1 ⟨D, rfl, hown, HD⟩
  cases hb : Maps.has D (.int .i64 x) with
  | true =>
    have HB : Hid (nmB x = true ∧ D.atKey (Lit.int .i64 x) (.lit (.int .i64 0)) = .lit (.int .i64 (2000 + x))) := by
      have h1 := hb
      rw [HD.out.1.has x] at h1
      have h2 := of_decide_eq_true h1
      exact ⟨by rw [nmB_is]; exact h1, HD.out.1.at' x h2.1 h2.2 _⟩
    go_wp2_with (first | (at_lookup; refine wpList_lookup_own_ok_int _ rfl _ _ 119 rfl 3 3 .i64 intKeyed Tryz.underlying119 Tryz.underlying3 (zeroIntN _) w.heap.size 10 D rfl hown _ _ rfl HK.out ?_; intro c hat hwc) | fail)
    obtain rfl : 2000 + x = c := by have := HB.out.2; rw [hat] at this; cases this; rfl
    refine Calls.mono (toldAtom_any (L := L) (2000 + x) w1 (Nat.le_trans HL.out HD.out.2.size)) ?_
    intro e w2 h2
    have H2 : Hid (ToldP L (longT x) w e w2) := by
      have : longT x = .atom (2000 + x) := by unfold longT; rw [if_pos HB.out.1]
      show ToldP L (longT x) w e w2
      rw [this]; exact ToldP.after HD.out.2 h2
    obtain ⟨v2, rfl, -⟩ := h2
    clear hat hwc hown
    go_wp2
    go_ret
    exact H2.out
  | false =>
    have HB : Hid (nmB x = false) := by
      show _ = _
      rw [nmB_is, ← HD.out.1.has x]; exact hb
    go_wp2_with (first | (at_lookup; refine wpList_lookup_own_ok_int _ rfl _ _ 119 rfl 3 3 .i64 intKeyed Tryz.underlying119 Tryz.underlying3 (zeroIntN _) w.heap.size 10 D rfl hown _ _ rfl HK.out ?_; intro c hat hwc) | fail)
    refine Calls.mono (toldNone_any (L := L) w1 (Nat.le_trans HL.out HD.out.2.size)) ?_
    intro e w2 h2
    have H2 : Hid (ToldP L (longT x) w e w2) := by
      have : longT x = .pl (-1) := by unfold longT; rw [if_neg (by rw [HB.out]; decide)]
      show ToldP L (longT x) w e w2
      rw [this]; exact ToldP.after HD.out.2 h2
    obtain ⟨v2, rfl, -⟩ := h2
    clear hat hwc hown
    go_wp2
    go_ret
    exact H2.out
/-- The secret of two names, as it is told. -/
def pskT (x y : Int) : Tl := if pkB x y = true then .atom (pkN x y) else .pl (-1)
theorem pskT_f (x y : Int) (ns : List Nd) : (pskT x y).f ns = (pkA ns x y, pkK ns x y) := by
  unfold pskT pkA pkK
  by_cases h : pkB x y = true
  · rw [if_pos h, if_pos h, if_pos h]; rfl
  · rw [if_neg h, if_neg h, if_neg h]; rfl
theorem pkB_is (x y : Int) : pkB x y = (nmB x && nmB y) := rfl
theorem pskT_wf (x y : Int) : (pskT x y).Wf := by
  unfold pskT
  by_cases h : pkB x y = true
  · rw [if_pos h]
    rw [pkB_is, nmB_is, nmB_is] at h
    simp at h
    have h2 : 3000 ≤ pkN x y ∧ pkN x y ≤ 3200 := by unfold pkN; split <;> omega
    exact WalkArith.wf_i64 (by omega)
  · rw [if_neg h]; exact WalkArith.wf_i64 (by omega)
set_option maxHeartbeats 1600000 in
set_option maxRecDepth 100000 in
theorem toldPsk_any {L : Nat} (x y : Int) (w : World) (hL : L ≤ w.heap.size) (hx : (Lit.int .i64 x).wf = true) (hy : (Lit.int .i64 y).wf = true) : Calls Tryz.prog 84 #[.int .i64 x, .int .i64 y] w (ToldP L (pskT x y) w) := by
  have HX : Hid _ := isName_any x w hx
  have HY : Hid (∀ w1, Calls Tryz.prog 113 #[.int .i64 y] w1 fun e w' => e = .returned (.bool (nmB y)) ∧ Below w1.heap.size w1 w') := fun w1 => isName_any y w1 hy
  have HL : Hid (L ≤ w.heap.size) := hL
  have HN : Hid (∀ w1, Below w.heap.size w w1 → pkB x y = false → Calls Tryz.prog 94 #[] w1 (ToldP L (pskT x y) w)) := fun w1 hb h => by
    refine Calls.mono (toldNone_any (L := L) w1 (Nat.le_trans hL hb.size)) ?_
    intro e w2 h2
    have : pskT x y = .pl (-1) := by unfold pskT; rw [if_neg (by rw [h]; decide)]
    rw [this]; exact ToldP.after hb h2
  have HA : Hid (∀ w1, Below w.heap.size w w1 → pkB x y = true → Calls Tryz.prog 32 #[.int .i64 (pkN x y)] w1 (ToldP L (pskT x y) w)) := fun w1 hb h => by
    refine Calls.mono (toldAtom_any (L := L) (pkN x y) w1 (Nat.le_trans hL hb.size)) ?_
    intro e w2 h2
    have : pskT x y = .atom (pkN x y) := by unfold pskT; rw [if_pos h]
    rw [this]; exact ToldP.after hb h2
  clear hx hy hL
  go_enter Tryz.func84, Tryz.ntmps84
  go_wp2_with fail
  refine Calls.mono HX.out ?_
  rintro e w1 ⟨rfl, hb1⟩
  cases hbx : nmB x with
  | false =>
    have HC : Hid _ := HN.out w1 hb1 (by rw [pkB_is, hbx]; rfl)
    clear hb1 hbx HN HA HX HY
    go_wp2_with fail
    refine Calls.mono HC.out ?_
    rintro e w2 h2
    have H2 : Hid (ToldP L (pskT x y) w e w2) := h2
    obtain ⟨v2, rfl, -⟩ := h2
    go_wp2
    go_ret
    exact H2.out
  | true =>
    go_wp2_with fail
    refine Calls.mono (HY.out _) ?_
    rintro e w2 ⟨rfl, hb2⟩
    have hb3 : Below w.heap.size w w2 := hb1.trans (hb2.mono hb1.size)
    cases hby : nmB y with
    | false =>
      have HC : Hid _ := HN.out w2 hb3 (by rw [pkB_is, hbx, hby]; rfl)
      clear hb1 hb2 hb3 hbx hby HN HA HX HY
      go_wp2_with fail
      refine Calls.mono HC.out ?_
      rintro e w3 h2
      have H2 : Hid (ToldP L (pskT x y) w e w3) := h2
      obtain ⟨v2, rfl, -⟩ := h2
      go_wp2
      go_ret
      exact H2.out
    | true =>
      have HC : Hid _ := HA.out w2 hb3 (by rw [pkB_is, hbx, hby]; rfl)
      have hx : 0 ≤ x ∧ x < 10 := by have := hbx; rw [nmB_is] at this; exact of_decide_eq_true this
      have hy : 0 ≤ y ∧ y < 10 := by have := hby; rw [nmB_is] at this; exact of_decide_eq_true this
      obtain ⟨hx0, hx1⟩ := hx
      obtain ⟨hy0, hy1⟩ := hy
      clear hb1 hb2 hb3 hbx hby HN HA HX HY
      by_cases hxy : y < x
      · have hp : pkN x y = 3000 + 10 * y + x := by unfold pkN; rw [if_pos hxy]
        rw [hp] at HC
        clear hp
        go_wp2_with fail
        refine Calls.mono HC.out ?_
        rintro e w3 h2
        have H2 : Hid (ToldP L (pskT x y) w e w3) := h2
        obtain ⟨v2, rfl, -⟩ := h2
        go_wp2
        go_ret
        exact H2.out
      · rcases Int.lt_trichotomy x y with hlt | rfl | hgt
        · have hp : pkN x y = 3000 + 10 * x + y := by unfold pkN; rw [if_neg hxy]
          rw [hp] at HC
          clear hp hxy
          go_wp2_with fail
          refine Calls.mono HC.out ?_
          rintro e w3 h2
          have H2 : Hid (ToldP L (pskT x y) w e w3) := h2
          obtain ⟨v2, rfl, -⟩ := h2
          go_wp2
          go_ret
          exact H2.out
        · have hp : pkN x x = 3000 + 10 * x + x := by unfold pkN; rw [if_neg hxy]
          rw [hp] at HC
          clear hp hxy
          go_wp2_with fail
          refine Calls.mono HC.out ?_
          rintro e w3 h2
          have H2 : Hid (ToldP L (pskT x x) w e w3) := h2
          obtain ⟨v2, rfl, -⟩ := h2
          go_wp2
          go_ret
          exact H2.out
        · exact absurd hgt hxy
end Go.Proofs.YtaanophnnkmkbaaGreat

namespace Go.Proofs.YtaanophnnkmkbaaGreat
open Go.RowKit Go.Maps
set_option linter.unusedVariables false
theorem make_asN {ns : List Nd} {k x y : Int} (h : ¬ (k = 1 ∨ k = 7)) : makeA ns k x y = putA ns (mkNd k x y) ∧ makeK ns k x y = putK ns (mkNd k x y) := by
  unfold makeA makeK; rw [if_neg h, if_neg h]; exact ⟨rfl, rfl⟩
theorem ifneg_sameN {K : Int} (h : K < 0 → K = -1) : (if K < 0 then -1 else K) = K := by
  split
  · rename_i h1; exact (h h1).symm
  · rfl
theorem lgK_neg {ns : List Nd} {n : Int} (h : lgK ns n < 0) : lgK ns n = -1 := by
  unfold lgK at h ⊢
  split
  · rename_i h1; rw [if_pos h1] at h; exact putK_neg h
  · rfl
theorem pkK_neg {ns : List Nd} {x y : Int} (h : pkK ns x y < 0) : pkK ns x y = -1 := by
  unfold pkK at h ⊢
  split
  · rename_i h1; rw [if_pos h1] at h; exact putK_neg h
  · rfl
theorem crK_neg {ns : List Nd} {n : Int} (h : crK ns n < 0) : crK ns n = -1 := makeK_neg (show makeK _ _ _ _ < 0 from h)
/-- A certificate, as it is told. -/
def certT (n : Int) : Tl := .two 8 (.atom 1000) (.list [.atom 60, .atom n, .one 6 (longT n)])
theorem certT_f (n : Int) (ns : List Nd) : (certT n).f ns = (crA ns n, crK ns n) := by
  have e5 : ((Tl.one 6 (longT n)).f (crA3 ns n)) = (crA5 ns n, crK5 ns n) := by
    unfold crA5 crK5
    rw [(make_asN (k := 6) (by omega)).1, (make_asN (k := 6) (by omega)).2]
    show (putA ((longT n).f (crA3 ns n)).1 (mkNd 6 ((longT n).f (crA3 ns n)).2 0), putK ((longT n).f (crA3 ns n)).1 (mkNd 6 ((longT n).f (crA3 ns n)).2 0)) = _
    rw [longT_f]
  have eL : ((Tl.list [.atom 60, .atom n, .one 6 (longT n)]).f (crA1 ns)) = crL ns n := by
    rw [Tl.f_list, Tl.fs_cons, Tl.fs_cons, Tl.fs_cons, Tl.fs_nil]
    show listF [crK2 ns, crK3 ns n, ((Tl.one 6 (longT n)).f (crA3 ns n)).2] ((Tl.one 6 (longT n)).f (crA3 ns n)).1 = _
    rw [e5]; rfl
  unfold crA crK
  rw [(make_asN (k := 8) (by omega)).1, (make_asN (k := 8) (by omega)).2]
  show (putA ((Tl.list [.atom 60, .atom n, .one 6 (longT n)]).f (crA1 ns)).1 (mkNd 8 (crK1 ns) ((Tl.list [.atom 60, .atom n, .one 6 (longT n)]).f (crA1 ns)).2), putK ((Tl.list [.atom 60, .atom n, .one 6 (longT n)]).f (crA1 ns)).1 (mkNd 8 (crK1 ns) ((Tl.list [.atom 60, .atom n, .one 6 (longT n)]).f (crA1 ns)).2)) = _
  rw [eL]
theorem wf60 : (Lit.int .i64 60).wf = true := by decide
theorem wf1000 : (Lit.int .i64 1000).wf = true := by decide
theorem certT_wf {n : Int} (h : (Lit.int .i64 n).wf = true) : (certT n).Wf := ⟨by omega, by omega, wf1000, by simp, wf60, h, longT_wf n, trivial⟩
/-- Terms that are told stay so. -/
theorem ToldIs.next {L : Nat} {w w' : World} {t : Tl} {v : Value} (hb : Below w.heap.size w w') (h : ToldIs L w.heap.size w t v) : ToldIs L w'.heap.size w' t v := ToldIs.base hb.size t (ToldIs.later hb t h)
set_option maxHeartbeats 1600000 in
theorem toldCert_any {L : Nat} (n : Int) (w : World) (hL : L ≤ w.heap.size) (hn : (Lit.int .i64 n).wf = true) : Calls Tryz.prog 58 #[.int .i64 n] w (ToldP L (certT n) w) := by
  have HL : Hid (L ≤ w.heap.size) := hL
  have HN : Hid ((Lit.int .i64 n).wf = true) := hn
  clear hL hn
  go_enter Tryz.func58, Tryz.ntmps58
  go_wp2_with fail
  refine Calls.mono (toldLong_any (L := L) n w HL.out HN.out) ?_
  rintro e w1 ⟨v1, rfl, t1, b1⟩
  have B1 : Hid (Below w.heap.size w w1 ∧ L ≤ w1.heap.size ∧ ToldIs L w1.heap.size w1 (longT n) v1) := ⟨b1, Nat.le_trans HL.out b1.size, t1⟩
  obtain ⟨F1, c1, rfl⟩ := t1.fn
  clear t1 b1
  go_wp2_with fail
  refine Calls.mono (toldOne_any (L := L) 6 _ _ w1 (by omega) B1.out.2.1 B1.out.2.2) ?_
  rintro e w2 ⟨v2, rfl, t2, b2⟩
  have B2 : Hid (Below w.heap.size w w2 ∧ L ≤ w2.heap.size ∧ ToldIs L w2.heap.size w2 (.one 6 (longT n)) v2) := ⟨B1.out.1.trans (b2.mono B1.out.1.size), Nat.le_trans B1.out.2.1 b2.size, t2⟩
  obtain ⟨F2, c2, rfl⟩ := t2.fn
  clear t2 b2 B1
  go_wp2_with fail
  refine Calls.mono (toldAtom_any (L := L) 1000 w2 B2.out.2.1) ?_
  rintro e w3 ⟨v3, rfl, t3, b3⟩
  have B3 : Hid (Below w.heap.size w w3 ∧ L ≤ w3.heap.size ∧ ToldIs L w3.heap.size w3 (.one 6 (longT n)) (.func (.func F2) #[] c2) ∧ ToldIs L w3.heap.size w3 (.atom 1000) v3) := ⟨B2.out.1.trans (b3.mono B2.out.1.size), Nat.le_trans B2.out.2.1 b3.size, B2.out.2.2.next b3, t3⟩
  obtain ⟨F3, c3, rfl⟩ := t3.fn
  clear t3 b3 B2
  go_wp2_with fail
  refine Calls.mono (toldAtom_any (L := L) 60 w3 B3.out.2.1) ?_
  rintro e w4 ⟨v4, rfl, t4, b4⟩
  have B4 : Hid (Below w.heap.size w w4 ∧ L ≤ w4.heap.size ∧ ToldIs L w4.heap.size w4 (.one 6 (longT n)) (.func (.func F2) #[] c2) ∧ ToldIs L w4.heap.size w4 (.atom 1000) (.func (.func F3) #[] c3) ∧ ToldIs L w4.heap.size w4 (.atom 60) v4) := ⟨B3.out.1.trans (b4.mono B3.out.1.size), Nat.le_trans B3.out.2.1 b4.size, B3.out.2.2.1.next b4, B3.out.2.2.2.next b4, t4⟩
  obtain ⟨F4, c4, rfl⟩ := t4.fn
  clear t4 b4 B3
  go_wp2_with fail
  refine Calls.mono (toldAtom_any (L := L) n w4 B4.out.2.1) ?_
  rintro e w5 ⟨v5, rfl, t5, b5⟩
  have B5 : Hid (Below w.heap.size w w5 ∧ L ≤ w5.heap.size ∧ ToldIs L w5.heap.size w5 (.one 6 (longT n)) (.func (.func F2) #[] c2) ∧ ToldIs L w5.heap.size w5 (.atom 1000) (.func (.func F3) #[] c3) ∧ ToldIs L w5.heap.size w5 (.atom 60) (.func (.func F4) #[] c4) ∧ ToldIs L w5.heap.size w5 (.atom n) v5) := ⟨B4.out.1.trans (b5.mono B4.out.1.size), Nat.le_trans B4.out.2.1 b5.size, B4.out.2.2.1.next b5, B4.out.2.2.2.1.next b5, B4.out.2.2.2.2.next b5, t5⟩
  obtain ⟨F5, c5, rfl⟩ := t5.fn
  clear t5 b5 B4
  obtain ⟨w6, hw6⟩ : ∃ w6, w5.alloc (.cells #[.func (.func F4) #[] c4, .func (.func F5) #[] c5, .func (.func F2) #[] c2] 53) = w6 := ⟨_, rfl⟩
  have b6 : Below w5.heap.size w5 w6 := by rw [← hw6]; exact (Below.refl _ _).alloc (Nat.le_refl _) _
  have s6 : w6.heap.size = w5.heap.size + 1 := by rw [← hw6]; simp
  have h6 : w6.heap[w5.heap.size]? = some (.cells #[.func (.func F4) #[] c4, .func (.func F5) #[] c5, .func (.func F2) #[] c2] 53 (0, 0)) := by rw [← hw6]; exact heap_alloc_new w5 _
  have HLC : Hid (Calls Tryz.prog 25 #[.slice (some ⟨w5.heap.size, 0, none⟩) 3 3] w6 (ToldP L (.list [.atom 60, .atom n, .one 6 (longT n)]) w6)) := by
    refine toldList_any (h := w5.heap.size) [.atom 60, .atom n, .one 6 (longT n)] [.func (.func F4) #[] c4, .func (.func F5) #[] c5, .func (.func F2) #[] c2] w6 (Nat.le_trans B5.out.2.1 b6.size) ⟨B5.out.2.1, by omega⟩ h6 ⟨rfl, fun m hm => ?_⟩
    rcases (show m = 0 ∨ m = 1 ∨ m = 2 by simp at hm; omega) with rfl | rfl | rfl
    · exact B5.out.2.2.2.2.1.next b6
    · exact B5.out.2.2.2.2.2.next b6
    · exact B5.out.2.2.1.next b6
  have B6 : Hid (Below w.heap.size w w6 ∧ L ≤ w6.heap.size ∧ ToldIs L w6.heap.size w6 (.atom 1000) (.func (.func F3) #[] c3)) := ⟨B5.out.1.trans (b6.mono B5.out.1.size), Nat.le_trans B5.out.2.1 b6.size, B5.out.2.2.2.1.next b6⟩
  clear B5 b6 s6 h6
  go_wp2_with fail
  clear hw6
  refine Calls.mono HLC.out ?_
  rintro e w7 ⟨v7, rfl, t7, b7⟩
  have B7 : Hid (Below w.heap.size w w7 ∧ L ≤ w7.heap.size ∧ ToldIs L w7.heap.size w7 (.atom 1000) (.func (.func F3) #[] c3) ∧ ToldIs L w7.heap.size w7 (.list [.atom 60, .atom n, .one 6 (longT n)]) v7) := ⟨B6.out.1.trans (b7.mono B6.out.1.size), Nat.le_trans B6.out.2.1 b7.size, B6.out.2.2.next b7, t7⟩
  obtain ⟨F7, c7, rfl⟩ := t7.fn
  clear t7 b7 B6 HLC
  go_wp2_with fail
  refine Calls.mono (toldTwo_any (L := L) 8 _ _ _ _ w7 B7.out.2.1 B7.out.2.2.1 B7.out.2.2.2) ?_
  rintro e w8 ⟨v8, rfl, t8, b8⟩
  have HE : Hid (ToldP L (certT n) w (.returned v8) w8) := ⟨v8, rfl, t8, B7.out.1.trans (b8.mono B7.out.1.size)⟩
  clear t8 b8 B7
  go_wp2
  go_ret
  exact HE.out

end Go.Proofs.YtaanophnnkmkbaaGreat
