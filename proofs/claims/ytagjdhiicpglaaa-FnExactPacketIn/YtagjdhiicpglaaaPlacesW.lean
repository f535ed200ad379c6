/- The contract of chapter 3's placesOf, the program's: nodes as keys of a map. -/
import Derived.Test.YtagjdhiicpglaaaTermPut
import Derived.Test.YtagjdhiicpglaaaPlainPlaces
import Derived.WalkKit
import Derived.WalkLawsBesides
import Derived.WalkSpells
import Derived.Maps.Own
import Derived.Maps.OwnOps
import Derived.Maps.OwnSet
import Derived.DeepKeys4
import Derived.WalkArith
namespace Go.Proofs.Ytagjdhiicpglaaa
open Go.RowKit Go.Maps
set_option linter.unusedVariables false

theorem laidOutP : laidOutB Try.prog = true := by kernel_rfl
theorem nodeKeyed : Keyed Try.prog 52 := Keyed.of_law (deep_law_laid laidOutP (m := 3) (by omega) (of_decide_eq_true (by kernel_rfl)) (by kernel_rfl) (by kernel_rfl))
theorem keyTypeN (k n a b : Int) : (Try.prog.keyType 52 && (Value.agg #[.int .i64 k, .int .i64 n, .int .i64 a, .int .i64 b]).formed Try.prog 52) = true := by kernel_rfl
theorem cellsINode : Try.prog.cellsOf 52 = 4 := by kernel_rfl
theorem cellsIInt : Try.prog.cellsOf 3 = 1 := by kernel_rfl
theorem typesPos : ∃ d, Try.prog.types.size + 1 = d + 1 + 1 := ⟨Try.prog.types.size - 1, by have : 0 < Try.prog.types.size := of_decide_eq_true (by kernel_rfl); omega⟩
theorem key_any (x : Nd) (hf : x.Fits) : ∃ l, keyOf Try.prog 52 (.agg #[.int .i64 x.k, .int .i64 x.n, .int .i64 x.a, .int .i64 x.b]) = some l := by
  obtain ⟨⟨a0, a1⟩, ⟨b0, b1⟩, ⟨c0, c1⟩, ⟨d0, d1⟩⟩ := hf
  have w0 : (Lit.int .i64 x.k).wf = true := WalkArith.wf_i64 ⟨a0, a1⟩
  have w1 : (Lit.int .i64 x.n).wf = true := WalkArith.wf_i64 ⟨b0, b1⟩
  have w2 : (Lit.int .i64 x.a).wf = true := WalkArith.wf_i64 ⟨c0, c1⟩
  have w3 : (Lit.int .i64 x.b).wf = true := WalkArith.wf_i64 ⟨d0, d1⟩
  unfold keyOf
  rw [Try.underlying52]
  simp only []
  rw [if_pos (keyTypeN _ _ _ _)]
  obtain ⟨d, hd⟩ := typesPos
  rw [hd]
  simp [Program.keyLits, Try.underlying52, Try.underlying3, Value.cells, cellsINode, cellsIInt, w0, w1, w2, w3]

/-- What a node reads as, as a key. -/
noncomputable def keyN (x : Nd) : Lit := (keyOf Try.prog 52 (.agg #[.int .i64 x.k, .int .i64 x.n, .int .i64 x.a, .int .i64 x.b])).getD (.bool false)
theorem key_of {x : Nd} (hf : x.Fits) : keyOf Try.prog 52 (.agg #[.int .i64 x.k, .int .i64 x.n, .int .i64 x.a, .int .i64 x.b]) = some (keyN x) := by
  obtain ⟨l, h⟩ := key_any x hf
  unfold keyN; rw [h]; rfl
theorem keyN_inj {x y : Nd} (hx : x.Fits) (hy : y.Fits) (h : keyN x = keyN y) : x = y := by
  have h1 := key_of hx
  rw [h] at h1
  have h2 := nodeKeyed.inj h1 (key_of hy)
  simp only [Value.agg.injEq, Array.mk.injEq, List.cons.injEq, Value.int.injEq, true_and, and_true] at h2
  exact (nd_eq x y).2 ⟨h2.1, h2.2.1, h2.2.2.1, h2.2.2.2⟩
set_option maxRecDepth 100000 in
theorem keyN_key {x : Nd} (hx : x.Fits) : WideAt.IsKeyLit (keyN x) := nodeKeyed.key (key_of hx)

/-- What the map of first places holds of the nodes ns. -/
structure PlacesD (ns : List Nd) (D : DataW Unit) : Prop where
  tidy : Tidy D
  has : ∀ x : Nd, x.Fits → Maps.has D (keyN x) = decide (0 ≤ findN ns x)
  at' : ∀ x : Nd, x.Fits → 0 ≤ findN ns x → ∀ z, D.atKey (keyN x) z = .lit (.int .i64 (findN ns x))
  size : Maps.size D = dcN ns ns.length
theorem PlacesD.start : PlacesD [] (.map []) := ⟨tidy_empty, fun x _ => by simp [Maps.has, findN, findFrom], fun x _ h => by simp [findN, findFrom] at h, rfl⟩
set_option maxRecDepth 100000 in
theorem PlacesD.new {ns : List Nd} {D : DataW Unit} {x : Nd} (h : PlacesD ns D) (hx : x.Fits) (hn : findN ns x = -1) : PlacesD (ns ++ [x]) (D.put (keyN x) (.lit (.int .i64 (ns.length : Int)))) := by
  refine ⟨h.tidy.put (keyN_key hx) _, fun y hy => ?_, fun y hy h0 z => ?_, ?_⟩
  · rw [findN_snoc]
    by_cases e : x = y
    · subst e
      rw [has_put_same h.tidy.isMap (keyN_key hx), hn]; simp
    · rw [has_put_other (fun e2 => e (keyN_inj hy hx e2).symm), h.has y hy]
      by_cases h0 : 0 ≤ findN ns y
      · rw [if_pos h0]
      · rw [if_neg h0, if_neg e]; simp; omega
  · rw [findN_snoc] at h0 ⊢
    by_cases e : x = y
    · subst e
      rw [atKey_put_same h.tidy.isMap (keyN_key hx), hn]; simp
    · rw [atKey_put_other (fun e2 => e (keyN_inj hy hx e2).symm)]
      by_cases h1 : 0 ≤ findN ns y
      · rw [if_pos h1]; exact h.at' y hy h1 z
      · rw [if_neg h1, if_neg e] at h0; omega
  · rw [size_put h.tidy, h.has x hx, dcN_snoc, hn, h.size]; simp
theorem PlacesD.old {ns : List Nd} {D : DataW Unit} {x : Nd} (h : PlacesD ns D) (hn : 0 ≤ findN ns x) : PlacesD (ns ++ [x]) D := by
  have e : ∀ y, findN (ns ++ [x]) y = findN ns y := fun y => by
    rw [findN_snoc]
    by_cases h0 : 0 ≤ findN ns y
    · rw [if_pos h0]
    · rw [if_neg h0, if_neg (fun e : x = y => h0 (e ▸ hn))]
      have := findN_range ns y
      omega
  exact ⟨h.tidy, fun y hy => by rw [e, h.has y hy], fun y hy h0 z => by rw [e] at h0 ⊢; exact h.at' y hy h0 z, by rw [dcN_snoc, if_neg (by omega), h.size]; rfl⟩

theorem zeroInt (w : World) : (zeroValue 3).run Try.prog w = .ok (.int .i64 0) w := by kernel_rfl
theorem take_next (ns : List Nd) (k : Nat) (h : k < ns.length) : ns.take (k + 1) = ns.take k ++ [ns.getD k Nd.zero] := by
  rw [List.take_succ_eq_append_getElem h, List.getD_eq_getElem?_getD, List.getElem?_eq_getElem h]; rfl
theorem getD_mem (ns : List Nd) (k : Nat) (h : k < ns.length) : ns.getD k Nd.zero ∈ ns := by
  rw [List.getD_eq_getElem?_getD, List.getElem?_eq_getElem h]; exact List.getElem_mem _
end Go.Proofs.Ytagjdhiicpglaaa
