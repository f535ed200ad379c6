/- The contract of chapter 3's placesOf, the program's: nodes as keys of a map. -/
import Derived.Test.YtffnadnndmmliaaTermPut
import Derived.Test.YtffnadnndmmliaaPlainPlaces
import Derived.WalkKit
import Derived.WalkLawsBesides
import Derived.WalkSpells
import Derived.Maps.Own
import Derived.Maps.OwnOps
import Derived.Maps.OwnSet
import Derived.DeepKeys4
import Derived.WalkArith
namespace Go.Proofs.Ytffnadnndmmliaa
open Go.RowKit Go.Maps
set_option linter.unusedVariables false

theorem laidOutP : laidOutB Try.prog = true := by kernel_rfl
theorem nodeKeyed : Keyed Try.prog 45 := Keyed.of_law (deep_law_laid laidOutP (m := 3) (by omega) (of_decide_eq_true (by kernel_rfl)) (by kernel_rfl) (by kernel_rfl))
theorem keyTypeN (k n a b : Int) : (Try.prog.keyType 45 && (Value.agg #[.int .i64 k, .int .i64 n, .int .i64 a, .int .i64 b]).formed Try.prog 45) = true := by kernel_rfl
theorem cellsINode : Try.prog.cellsOf 45 = 4 := by kernel_rfl
theorem cellsIInt : Try.prog.cellsOf 3 = 1 := by kernel_rfl
theorem typesPos : ∃ d, Try.prog.types.size + 1 = d + 1 + 1 := ⟨Try.prog.types.size - 1, by have : 0 < Try.prog.types.size := of_decide_eq_true (by kernel_rfl); omega⟩
theorem key_any (x : Nd) (hf : x.Fits) : ∃ l, keyOf Try.prog 45 (.agg #[.int .i64 x.k, .int .i64 x.n, .int .i64 x.a, .int .i64 x.b]) = some l := by
  obtain ⟨⟨a0, a1⟩, ⟨b0, b1⟩, ⟨c0, c1⟩, ⟨d0, d1⟩⟩ := hf
  have w0 : (Lit.int .i64 x.k).wf = true := WalkArith.wf_i64 ⟨a0, a1⟩
  have w1 : (Lit.int .i64 x.n).wf = true := WalkArith.wf_i64 ⟨b0, b1⟩
  have w2 : (Lit.int .i64 x.a).wf = true := WalkArith.wf_i64 ⟨c0, c1⟩
  have w3 : (Lit.int .i64 x.b).wf = true := WalkArith.wf_i64 ⟨d0, d1⟩
  unfold keyOf
  rw [Try.underlying45]
  simp only []
  rw [if_pos (keyTypeN _ _ _ _)]
  obtain ⟨d, hd⟩ := typesPos
  rw [hd]
  simp [Program.keyLits, Try.underlying45, Try.underlying3, Value.cells, cellsINode, cellsIInt, w0, w1, w2, w3]

/-- What a node reads as, as a key. -/
noncomputable def keyN (x : Nd) : Lit := (keyOf Try.prog 45 (.agg #[.int .i64 x.k, .int .i64 x.n, .int .i64 x.a, .int .i64 x.b])).getD (.bool false)
theorem key_of {x : Nd} (hf : x.Fits) : keyOf Try.prog 45 (.agg #[.int .i64 x.k, .int .i64 x.n, .int .i64 x.a, .int .i64 x.b]) = some (keyN x) := by
  obtain ⟨l, h⟩ := key_any x hf
  unfold keyN; rw [h]; rfl
theorem keyN_inj {x y : Nd} (hx : x.Fits) (hy : y.Fits) (h : keyN x = keyN y) : x = y := by
  have h1 := key_of hx
  rw [h] at h1
  have h2 := nodeKeyed.inj h1 (key_of hy)
  simp only [Value.agg.injEq, Array.mk.injEq, List.cons.injEq, Value.int.injEq, true_and, and_true] at h2
  exact (nd_eq x y).2 ⟨h2.1, h2.2.1, h2.2.2.1, h2.2.2.2⟩
set_option maxRecDepth 100000 in
theorem keyN_key {x : Nd} (hx : x.Fits) : WideAt.IsKeyLit (keyN x) := nodeKeyed.key (key_of hx)

/-- What the map of first places holds of the nodes ns. -/
structure PlacesD (ns : List Nd) (D : DataW Unit) : Prop where
  tidy : Tidy D
  has : ∀ x : Nd, x.Fits → Maps.has D (keyN x) = decide (0 ≤ findN ns x)
  at' : ∀ x : Nd, x.Fits → 0 ≤ findN ns x → ∀ z, D.atKey (keyN x) z = .lit (.int .i64 (findN ns x))
  size : Maps.size D = dcN ns ns.length
theorem PlacesD.start : PlacesD [] (.map []) := ⟨tidy_empty, fun x _ => by simp [Maps.has, findN, findFrom], fun x _ h => by simp [findN, findFrom] at h, rfl⟩
set_option maxRecDepth 100000 in
theorem PlacesD.new {ns : List Nd} {D : DataW Unit} {x : Nd} (h : PlacesD ns D) (hx : x.Fits) (hn : findN ns x = -1) : PlacesD (ns ++ [x]) (D.put (keyN x) (.lit (.int .i64 (ns.length : Int)))) := by
  refine ⟨h.tidy.put (keyN_key hx) _, fun y hy => ?_, fun y hy h0 z => ?_, ?_⟩
  · rw [findN_snoc]
    by_cases e : x = y
    · subst e
      rw [has_put_same h.tidy.isMap (keyN_key hx), hn]; simp
    · rw [has_put_other (fun e2 => e (keyN_inj hy hx e2).symm), h.has y hy]
      by_cases h0 : 0 ≤ findN ns y
      · rw [if_pos h0]
      · rw [if_neg h0, if_neg e]; simp; omega
  · rw [findN_snoc] at h0 ⊢
    by_cases e : x = y
    · subst e
      rw [atKey_put_same h.tidy.isMap (keyN_key hx), hn]; simp
    · rw [atKey_put_other (fun e2 => e (keyN_inj hy hx e2).symm)]
      by_cases h1 : 0 ≤ findN ns y
      · rw [if_pos h1]; exact h.at' y hy h1 z
      · rw [if_neg h1, if_neg e] at h0; omega
  · rw [size_put h.tidy, h.has x hx, dcN_snoc, hn, h.size]; simp
theorem PlacesD.old {ns : List Nd} {D : DataW Unit} {x : Nd} (h : PlacesD ns D) (hn : 0 ≤ findN ns x) : PlacesD (ns ++ [x]) D := by
  have e : ∀ y, findN (ns ++ [x]) y = findN ns y := fun y => by
    rw [findN_snoc]
    by_cases h0 : 0 ≤ findN ns y
    · rw [if_pos h0]
    · rw [if_neg h0, if_neg (fun e : x = y => h0 (e ▸ hn))]
      have := findN_range ns y
      omega
  exact ⟨h.tidy, fun y hy => by rw [e, h.has y hy], fun y hy h0 z => by rw [e] at h0 ⊢; exact h.at' y hy h0 z, by rw [dcN_snoc, if_neg (by omega), h.size]; rfl⟩

theorem zeroInt (w : World) : (zeroValue 3).run Try.prog w = .ok (.int .i64 0) w := by kernel_rfl
theorem make_places (n : Int) (w : World) : (Instr.makeMap 102 (some (.int .i64 n))).run Try.prog w = .ok (.map (some w.heap.size)) (w.alloc (.map #[] 0)) := by kernel_rfl
theorem take_next (ns : List Nd) (k : Nat) (h : k < ns.length) : ns.take (k + 1) = ns.take k ++ [ns.getD k Nd.zero] := by
  rw [List.take_succ_eq_append_getElem h, List.getD_eq_getElem?_getD, List.getElem?_eq_getElem h]; rfl
theorem getD_mem (ns : List Nd) (k : Nat) (h : k < ns.length) : ns.getD k Nd.zero ∈ ns := by
  rw [List.getD_eq_getElem?_getD, List.getElem?_eq_getElem h]; exact List.getElem_mem _
set_option maxHeartbeats 1600000 in
set_option maxRecDepth 100000 in
theorem placesOf_any (a : Option Addr) (cap : Nat) (ns : List Nd) (w : World) (hl : ns.length ≤ 1048576) (hf : ∀ y ∈ ns, y.Fits) (hr : RowN w.heap.size w a ns) :
    Calls Try.prog 97 #[.slice a ns.length cap] w fun e w' => ∃ D, e = .returned (.map (some w.heap.size)) ∧ w'.ownsMap Try.prog 45 (plainElem Try.prog 3) w.heap.size ns.length D ∧ PlacesD ns D ∧ Below w.heap.size w w' := by
  have HR : Hid (RowN w.heap.size w a ns) := hr
  have HF : Hid (∀ y ∈ ns, y.Fits) := hf
  clear hr hf
  have hmm := make_places
  go_enter Try.func97, Try.ntmps97
  go_wp2
  go_loopw [13] (fun i wr => ∃ (k : Nat) (D : DataW Unit), k ≤ ns.length ∧ i = .int .i64 (k : Int) ∧ wr.ownsMap Try.prog 45 (plainElem Try.prog 3) w.heap.size k D ∧ PlacesD (ns.take k) D ∧ Below w.heap.size w wr)
    (fun i _ => ns.length - (intOf i).toNat)
  case atStart => exact ⟨0, .map [], Nat.zero_le _, rfl, World.ownsMap_made _ _ _ _, PlacesD.start, (Below.refl _ _).alloc (Nat.le_refl _) _⟩
  case round =>
    obtain ⟨k, D, hk, rfl, hown, hpd, hbel⟩ := hrel
    by_cases hlt : k < ns.length
    · obtain ⟨b, off, rfl⟩ := HR.out.addr hlt
      obtain ⟨hb, c0, c1, c2, c3⟩ := HR.out.at hbel hlt
      have hi0 : (0 : Int) ≤ (k : Int) := by omega
      have hi1 : (k : Int) < (ns.length : Int) := by omega
      have hfy := HF.out _ (getD_mem ns k hlt)
      have HT : Hid (ns.take (k + 1) = ns.take k ++ [ns.getD k Nd.zero]) := take_next ns k hlt
      generalize ns.getD k Nd.zero = y at c0 c1 c2 c3 HT hfy
      have HK : Hid _ := key_of hfy
      have hh := hpd.has y hfy
      have HP : Hid (PlacesD (ns.take k) D) := hpd
      have HY : Hid y.Fits := hfy
      have HL : Hid ((ns.take k).length = k) := by show _ = _; rw [List.length_take]; omega
      have hbs := hbel.size
      clear hpd hfy
      by_cases hfi : 0 ≤ findN (ns.take k) y
      · have hhas : Maps.has D (keyN y) = true := by rw [hh]; simpa using hfi
        have HN : Hid (PlacesD (ns.take (k + 1)) D) := by show PlacesD _ _; rw [HT.out]; exact HP.out.old hfi
        clear hh hfi
        go_wp2_with (at_lookup; refine wpList_lookup_own_ok_int _ rfl _ _ 102 rfl 45 3 .i64 nodeKeyed Try.underlying102 Try.underlying3 (zeroInt _) w.heap.size k D rfl (hown.alloc _) _ _ rfl HK.out ?_; intro c hat hwc)
        go_roundw
        case rel => exact ⟨k + 1, D, by omega, by go_num, (hown.alloc _).mono (by omega), HN.out, hbel.alloc hbs _⟩
        case measure => simp [intOf]; omega
      · have hhas : Maps.has D (keyN y) = false := by rw [hh]; simpa using hfi
        have hm1 : findN (ns.take k) y = -1 := by have := findN_range (ns.take k) y; omega
        have HN : Hid (PlacesD (ns.take (k + 1)) (D.put (keyN y) (.lit (.int .i64 (k : Int))))) := by
          show PlacesD _ _
          have := HP.out.new HY.out hm1
          rw [HL.out] at this
          rw [HT.out]; exact this
        clear hh hfi hm1
        go_wp2_with (first | (at_lookup; refine wpList_lookup_own_ok_int _ rfl _ _ 102 rfl 45 3 .i64 nodeKeyed Try.underlying102 Try.underlying3 (zeroInt _) w.heap.size k D rfl (hown.alloc _) _ _ rfl HK.out ?_; intro c hat hwc) | (at_mapUpdate; refine wpList_mapUpdate_own _ rfl _ _ _ 102 rfl 45 3 nodeKeyed Try.underlying102 _ w.heap.size k D rfl (hown.alloc _) ?c1 _ _ _ rfl rfl HK.out _ [] (plainElem_int Try.underlying3 ?c2) ?_; rotate_left 2; intro w1 hown1 hgrow1))
        case c1 => unfold maxLen; omega
        case c2 => exact WalkArith.wf_i64 (by omega)
        go_roundw
        case rel => exact ⟨k + 1, _, by omega, by go_num, hown1, HN.out, (hbel.alloc hbs _).grown hgrow1 (by simp; omega) (fun j hj => by cases hj; exact Nat.le_refl _)⟩
        case measure => simp [intOf]; omega
    · obtain rfl : k = ns.length := by omega
      rw [List.take_length] at hpd
      go_wp2
      go_ret
      exact ⟨D, rfl, hown, hpd, hbel⟩
end Go.Proofs.Ytffnadnndmmliaa
