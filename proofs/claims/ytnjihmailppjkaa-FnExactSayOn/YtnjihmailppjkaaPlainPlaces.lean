/- Plain mathematics of first places (chapter 3): where a node stands first, how many unlike there are; ArenaOk by them. -/
import Derived.Test.YtnjihmailppjkaaPlainTerm
import Derived.Test.YtnjihmailppjkaaPlainText
import Derived.Test.YtnjihmailppjkaaTermPut
import Derived.WalkKit
import Derived.WalkLawsBesides
import Derived.WalkSpells
import Derived.Maps.Own
import Derived.Maps.OwnOps
import Derived.Maps.OwnSet
import Derived.DeepKeys4
import Derived.WalkArith
namespace Go.Proofs.Ytnjihmailppjkaa
open Go.RowKit

theorem findFrom_append (y : Nd) : ∀ (l m : List Nd) (i : Nat), findFrom y (l ++ m) i = if 0 ≤ findFrom y l i then findFrom y l i else findFrom y m (i + l.length)
  | [], m, i => by simp [findFrom]
  | x :: l, m, i => by
    rw [List.cons_append, findFrom, findFrom]
    by_cases h : x = y
    · simp only [if_pos h]; rw [if_pos (by omega)]
    · simp only [if_neg h]
      rw [findFrom_append y l m (i + 1), List.length_cons, show i + (l.length + 1) = i + 1 + l.length by omega]
theorem findN_snoc (ns : List Nd) (x y : Nd) : findN (ns ++ [x]) y = if 0 ≤ findN ns y then findN ns y else if x = y then (ns.length : Int) else -1 := by
  unfold findN
  rw [findFrom_append, Nat.zero_add]; rfl
theorem findFrom_at (y : Nd) : ∀ (l : List Nd) (i k : Nat), findFrom y l i = (k : Int) → i ≤ k ∧ l[k - i]? = some y
  | [], i, k, h => by simp [findFrom] at h
  | x :: l, i, k, h => by
    rw [findFrom] at h
    split at h
    · rename_i e
      have : i = k := by omega
      subst this
      exact ⟨Nat.le_refl _, by simp [e]⟩
    · obtain ⟨h1, h2⟩ := findFrom_at y l (i + 1) k h
      refine ⟨by omega, ?_⟩
      rw [show k - i = (k - (i + 1)) + 1 by omega, List.getElem?_cons_succ]; exact h2
theorem findN_at {ns : List Nd} {y : Nd} {k : Nat} (h : findN ns y = (k : Int)) : ns[k]? = some y := (findFrom_at y ns 0 k h).2
theorem findN_getD {ns : List Nd} {y : Nd} (h : 0 ≤ findN ns y) : ns.getD (findN ns y).toNat Nd.zero = y := by
  have := findN_at (ns := ns) (y := y) (k := (findN ns y).toNat) (by omega)
  rw [List.getD_eq_getElem?_getD, this]; rfl
theorem findN_none {ns : List Nd} {y : Nd} (h : findN ns y = -1) : ∀ i, i < ns.length → ns.getD i Nd.zero ≠ y := by
  have go : ∀ (l : List Nd) (j : Nat), findFrom y l j = -1 → ∀ i, i < l.length → l.getD i Nd.zero ≠ y := by
    intro l
    induction l with
    | nil => intro j _ i hi; simp at hi
    | cons x l ih =>
      intro j hj i hi
      rw [findFrom] at hj
      split at hj
      · omega
      · rename_i hne
        cases i with
        | zero => simpa using hne
        | succ i => simpa using ih (j + 1) hj i (by simpa using hi)
  exact go ns 0 h
theorem findN_some {ns : List Nd} {i : Nat} (h : i < ns.length) : 0 ≤ findN ns (ns.getD i Nd.zero) := by
  rcases findN_range ns (ns.getD i Nd.zero) with e | e
  · exact absurd rfl (findN_none e i h)
  · exact e.1
theorem findN_take {ns : List Nd} {y : Nd} (k : Nat) : findN ns y = if 0 ≤ findN (ns.take k) y then findN (ns.take k) y else findFrom y (ns.drop k) (ns.take k).length := by
  have : ns = ns.take k ++ ns.drop k := (List.take_append_drop k ns).symm
  conv => lhs; rw [this]
  unfold findN
  rw [findFrom_append, Nat.zero_add]

/-- How many of the first k stand there first. -/
def dcN (ns : List Nd) : Nat → Nat
  | 0 => 0
  | k + 1 => dcN ns k + if findN (ns.take k) (ns.getD k Nd.zero) = -1 then 1 else 0
theorem dcN_le (ns : List Nd) : ∀ k, dcN ns k ≤ k
  | 0 => Nat.le_refl _
  | k + 1 => by have := dcN_le ns k; rw [dcN]; split <;> omega
theorem dcN_all {ns : List Nd} : ∀ k, dcN ns k = k ↔ ∀ i, i < k → findN (ns.take i) (ns.getD i Nd.zero) = -1
  | 0 => by simp [dcN]
  | k + 1 => by
    have ih := dcN_all (ns := ns) k
    have hl := dcN_le ns k
    rw [dcN]
    constructor
    · intro h i hi
      split at h
      · by_cases e : i = k
        · subst e; assumption
        · exact ih.1 (by omega) i (by omega)
      · omega
    · intro h
      rw [if_pos (h k (by omega)), ih.2 (fun i hi => h i (by omega))]
theorem dcN_take (ns ms : List Nd) : ∀ k, k ≤ ns.length → dcN (ns ++ ms) k = dcN ns k
  | 0, _ => rfl
  | k + 1, h => by
    rw [dcN, dcN, dcN_take ns ms k (by omega), List.take_append_of_le_length (by omega)]
    rw [List.getD_eq_getElem?_getD, List.getElem?_append_left (by omega), ← List.getD_eq_getElem?_getD]
theorem dcN_snoc (ns : List Nd) (x : Nd) : dcN (ns ++ [x]) (ns ++ [x]).length = dcN ns ns.length + if findN ns x = -1 then 1 else 0 := by
  rw [List.length_append, List.length_singleton, dcN, dcN_take ns [x] ns.length (Nat.le_refl _), List.take_left]
  rw [List.getD_eq_getElem?_getD, List.getElem?_append_right (Nat.le_refl _), Nat.sub_self]; rfl

theorem first_iff {ns : List Nd} {i : Nat} (h : i < ns.length) : findN ns (ns.getD i Nd.zero) = (i : Int) ↔ findN (ns.take i) (ns.getD i Nd.zero) = -1 := by
  have hr := findN_range (ns.take i) (ns.getD i Nd.zero)
  have hl : (ns.take i).length = i := by rw [List.length_take]; omega
  have e := findN_take (ns := ns) (y := ns.getD i Nd.zero) i
  have hd : findFrom (ns.getD i Nd.zero) (ns.drop i) (ns.take i).length = (i : Int) := by
    rw [hl, find_drop ns _ i h, if_pos rfl]
  rw [e]
  constructor
  · intro h2
    rcases hr with h3 | h3
    · exact h3
    · rw [if_pos h3.1, hl] at *; omega
  · intro h2
    rw [h2, if_neg (by omega), hd]
theorem allFrom_iff (ns : List Nd) : ∀ (l : List Nd) (i : Nat), allFrom ns l i = true ↔ ∀ j, j < l.length → nodeB (l.getD j Nd.zero) ((i + j : Nat) : Int) = true ∧ findN ns (l.getD j Nd.zero) = ((i + j : Nat) : Int)
  | [], i => by simp [allFrom]
  | x :: l, i => by
    have ih := allFrom_iff ns l (i + 1)
    rw [allFrom, Bool.and_eq_true, Bool.and_eq_true, ih]
    constructor
    · rintro ⟨h1, h2, h3⟩ j hj
      cases j with
      | zero => exact ⟨by simpa using h1, by simpa using h2⟩
      | succ j =>
        have := h3 j (by simpa using hj)
        rw [show i + 1 + j = i + (j + 1) by omega] at this
        simpa using this
    · intro h
      refine ⟨by simpa using (h 0 (by simp)).1, by simpa using (h 0 (by simp)).2, fun j hj => ?_⟩
      have := h (j + 1) (by simpa using hj)
      rw [show i + (j + 1) = i + 1 + j by omega] at this
      simpa using this
/-- ArenaOk, by the nodes' being right and their count. -/
theorem arena_iff (ns : List Nd) : allFrom ns ns 0 = true ↔ (∀ i, i < ns.length → nodeB (ns.getD i Nd.zero) (i : Int) = true) ∧ dcN ns ns.length = ns.length := by
  rw [allFrom_iff, dcN_all]
  constructor
  · intro h
    exact ⟨fun i hi => by have := (h i hi).1; rw [Nat.zero_add] at this; exact this, fun i hi => (first_iff hi).1 (by have := (h i hi).2; rw [Nat.zero_add] at this; exact this)⟩
  · rintro ⟨h1, h2⟩ j hj
    rw [Nat.zero_add]
    exact ⟨h1 j hj, (first_iff hj).2 (h2 j hj)⟩
end Go.Proofs.Ytnjihmailppjkaa

namespace Go.Proofs.Ytnjihmailppjkaa
open Go.RowKit
set_option linter.unusedVariables false
/-- Right and no two the same: kept by what is put. -/
theorem all_put {ns : List Nd} {x : Nd} (h : allFrom ns ns 0 = true) : allFrom (putA ns x) (putA ns x) 0 = true := by
  unfold putA
  split
  · rename_i hx
    rw [arena_iff] at h ⊢
    refine ⟨fun i hi => ?_, ?_⟩
    · by_cases e : i < ns.length
      · have := h.1 i e
        rw [List.getD_eq_getElem?_getD, List.getElem?_append_left e, ← List.getD_eq_getElem?_getD]; exact this
      · have hi' : i = ns.length := by simp at hi; omega
        subst hi'
        rw [List.getD_eq_getElem?_getD, List.getElem?_append_right (Nat.le_refl _), Nat.sub_self]
        exact hx.1
    · rw [dcN_snoc, h.2, if_pos hx.2.1]; simp
  · exact h
theorem put_len {ns : List Nd} {x : Nd} : (putA ns x).length ≤ ns.length + 1 ∧ ns.length ≤ (putA ns x).length := by
  unfold putA; split <;> simp
theorem put_pos {ns : List Nd} {x : Nd} (h : nodeB x ns.length = true) (hl : ns.length < 3000) : 1 ≤ (putA ns x).length := by
  unfold putA
  split
  · simp
  · rename_i hn
    rcases findN_range ns x with e | e
    · exact absurd ⟨h, e, hl⟩ hn
    · omega
theorem atomB {z : Int} (h0 : 0 ≤ z) (h1 : z ≤ 999999) (k : Int) : nodeB ⟨1, z, 0, 0⟩ k = true := by
  unfold nodeB; simp [inB]; omega
theorem right_fits {x : Nd} {k : Int} (h : nodeB x k = true) (hk : k ≤ 1000000) : x.Fits := by
  unfold Nd.Fits
  rcases nodeB_true h with h | h | h <;> omega
theorem all_fits {ns : List Nd} (h : allFrom ns ns 0 = true) (hl : ns.length ≤ 3000) : ∀ y ∈ ns, y.Fits := by
  intro y hy
  obtain ⟨i, hi, rfl⟩ := List.getElem_of_mem hy
  have := ((arena_iff ns).1 h).1 i hi
  rw [List.getD_eq_getElem?_getD, List.getElem?_eq_getElem hi] at this
  exact right_fits this (by omega)
end Go.Proofs.Ytnjihmailppjkaa

namespace Go.Proofs.Ytnjihmailppjkaa
open Go.RowKit Go.Maps
set_option linter.unusedVariables false

theorem laidOutP : laidOutB Try.prog = true := by kernel_rfl
theorem nodeKeyed : Keyed Try.prog 87 := Keyed.of_law (deep_law_laid laidOutP (m := 3) (by omega) (of_decide_eq_true (by kernel_rfl)) (by kernel_rfl) (by kernel_rfl))
theorem keyTypeN (k n a b : Int) : (Try.prog.keyType 87 && (Value.agg #[.int .i64 k, .int .i64 n, .int .i64 a, .int .i64 b]).formed Try.prog 87) = true := by kernel_rfl
theorem cellsINode : Try.prog.cellsOf 87 = 4 := by kernel_rfl
theorem cellsIInt : Try.prog.cellsOf 3 = 1 := by kernel_rfl
theorem typesPos : ∃ d, Try.prog.types.size + 1 = d + 1 + 1 := ⟨Try.prog.types.size - 1, by have : 0 < Try.prog.types.size := of_decide_eq_true (by kernel_rfl); omega⟩
theorem key_any (x : Nd) (hf : x.Fits) : ∃ l, keyOf Try.prog 87 (.agg #[.int .i64 x.k, .int .i64 x.n, .int .i64 x.a, .int .i64 x.b]) = some l := by
  obtain ⟨⟨a0, a1⟩, ⟨b0, b1⟩, ⟨c0, c1⟩, ⟨d0, d1⟩⟩ := hf
  have w0 : (Lit.int .i64 x.k).wf = true := WalkArith.wf_i64 ⟨a0, a1⟩
  have w1 : (Lit.int .i64 x.n).wf = true := WalkArith.wf_i64 ⟨b0, b1⟩
  have w2 : (Lit.int .i64 x.a).wf = true := WalkArith.wf_i64 ⟨c0, c1⟩
  have w3 : (Lit.int .i64 x.b).wf = true := WalkArith.wf_i64 ⟨d0, d1⟩
  unfold keyOf
  rw [Try.underlying87]
  simp only []
  rw [if_pos (keyTypeN _ _ _ _)]
  obtain ⟨d, hd⟩ := typesPos
  rw [hd]
  simp [Program.keyLits, Try.underlying87, Try.underlying3, Value.cells, cellsINode, cellsIInt, w0, w1, w2, w3]

/-- What a node reads as, as a key. -/
noncomputable def keyN (x : Nd) : Lit := (keyOf Try.prog 87 (.agg #[.int .i64 x.k, .int .i64 x.n, .int .i64 x.a, .int .i64 x.b])).getD (.bool false)
theorem key_of {x : Nd} (hf : x.Fits) : keyOf Try.prog 87 (.agg #[.int .i64 x.k, .int .i64 x.n, .int .i64 x.a, .int .i64 x.b]) = some (keyN x) := by
  obtain ⟨l, h⟩ := key_any x hf
  unfold keyN; rw [h]; rfl
theorem keyN_inj {x y : Nd} (hx : x.Fits) (hy : y.Fits) (h : keyN x = keyN y) : x = y := by
  have h1 := key_of hx
  rw [h] at h1
  have h2 := nodeKeyed.inj h1 (key_of hy)
  simp only [Value.agg.injEq, Array.mk.injEq, List.cons.injEq, Value.int.injEq, true_and, and_true] at h2
  exact (nd_eq x y).2 ⟨h2.1, h2.2.1, h2.2.2.1, h2.2.2.2⟩
set_option maxRecDepth 100000 in
theorem keyN_key {x : Nd} (hx : x.Fits) : WideAt.IsKeyLit (keyN x) := nodeKeyed.key (key_of hx)

/-- What the map of first places holds of the nodes ns. -/
structure PlacesD (ns : List Nd) (D : DataW Unit) : Prop where
  tidy : Tidy D
  has : ∀ x : Nd, x.Fits → Maps.has D (keyN x) = decide (0 ≤ findN ns x)
  at' : ∀ x : Nd, x.Fits → 0 ≤ findN ns x → ∀ z, D.atKey (keyN x) z = .lit (.int .i64 (findN ns x))
  size : Maps.size D = dcN ns ns.length
theorem PlacesD.start : PlacesD [] (.map []) := ⟨tidy_empty, fun x _ => by simp [Maps.has, findN, findFrom], fun x _ h => by simp [findN, findFrom] at h, rfl⟩
set_option maxRecDepth 100000 in
theorem PlacesD.new {ns : List Nd} {D : DataW Unit} {x : Nd} (h : PlacesD ns D) (hx : x.Fits) (hn : findN ns x = -1) : PlacesD (ns ++ [x]) (D.put (keyN x) (.lit (.int .i64 (ns.length : Int)))) := by
  refine ⟨h.tidy.put (keyN_key hx) _, fun y hy => ?_, fun y hy h0 z => ?_, ?_⟩
  · rw [findN_snoc]
    by_cases e : x = y
    · subst e
      rw [has_put_same h.tidy.isMap (keyN_key hx), hn]; simp
    · rw [has_put_other (fun e2 => e (keyN_inj hy hx e2).symm), h.has y hy]
      by_cases h0 : 0 ≤ findN ns y
      · rw [if_pos h0]
      · rw [if_neg h0, if_neg e]; simp; omega
  · rw [findN_snoc] at h0 ⊢
    by_cases e : x = y
    · subst e
      rw [atKey_put_same h.tidy.isMap (keyN_key hx), hn]; simp
    · rw [atKey_put_other (fun e2 => e (keyN_inj hy hx e2).symm)]
      by_cases h1 : 0 ≤ findN ns y
      · rw [if_pos h1]; exact h.at' y hy h1 z
      · rw [if_neg h1, if_neg e] at h0; omega
  · rw [size_put h.tidy, h.has x hx, dcN_snoc, hn, h.size]; simp
theorem PlacesD.old {ns : List Nd} {D : DataW Unit} {x : Nd} (h : PlacesD ns D) (hn : 0 ≤ findN ns x) : PlacesD (ns ++ [x]) D := by
  have e : ∀ y, findN (ns ++ [x]) y = findN ns y := fun y => by
    rw [findN_snoc]
    by_cases h0 : 0 ≤ findN ns y
    · rw [if_pos h0]
    · rw [if_neg h0, if_neg (fun e : x = y => h0 (e ▸ hn))]
      have := findN_range ns y
      omega
  exact ⟨h.tidy, fun y hy => by rw [e, h.has y hy], fun y hy h0 z => by rw [e] at h0 ⊢; exact h.at' y hy h0 z, by rw [dcN_snoc, if_neg (by omega), h.size]; rfl⟩

theorem zeroInt (w : World) : (zeroValue 3).run Try.prog w = .ok (.int .i64 0) w := by kernel_rfl
theorem make_places (n : Int) (w : World) : (Instr.makeMap 117 (some (.int .i64 n))).run Try.prog w = .ok (.map (some w.heap.size)) (w.alloc (.map #[] 0)) := by kernel_rfl
theorem take_next (ns : List Nd) (k : Nat) (h : k < ns.length) : ns.take (k + 1) = ns.take k ++ [ns.getD k Nd.zero] := by
  rw [List.take_succ_eq_append_getElem h, List.getD_eq_getElem?_getD, List.getElem?_eq_getElem h]; rfl
theorem getD_mem (ns : List Nd) (k : Nat) (h : k < ns.length) : ns.getD k Nd.zero ∈ ns := by
  rw [List.getD_eq_getElem?_getD, List.getElem?_eq_getElem h]; exact List.getElem_mem _
set_option maxHeartbeats 1600000 in
set_option maxRecDepth 100000 in
theorem placesOf_any (a : Option Addr) (cap : Nat) (ns : List Nd) (w : World) (hl : ns.length ≤ 1048576) (hf : ∀ y ∈ ns, y.Fits) (hr : RowN w.heap.size w a ns) :
    Calls Try.prog 82 #[.slice a ns.length cap] w fun e w' => ∃ D, e = .returned (.map (some w.heap.size)) ∧ w'.ownsMap Try.prog 87 (plainElem Try.prog 3) w.heap.size ns.length D ∧ PlacesD ns D ∧ Below w.heap.size w w' := by
  have HR : Hid (RowN w.heap.size w a ns) := hr
  have HF : Hid (∀ y ∈ ns, y.Fits) := hf
  clear hr hf
  have hmm := make_places
  go_enter Try.func82, Try.ntmps82
  go_wp2
  go_loopw [13] (fun i wr => ∃ (k : Nat) (D : DataW Unit), k ≤ ns.length ∧ i = .int .i64 (k : Int) ∧ wr.ownsMap Try.prog 87 (plainElem Try.prog 3) w.heap.size k D ∧ PlacesD (ns.take k) D ∧ Below w.heap.size w wr)
    (fun i _ => ns.length - (intOf i).toNat)
  case atStart => exact ⟨0, .map [], Nat.zero_le _, rfl, World.ownsMap_made _ _ _ _, PlacesD.start, (Below.refl _ _).alloc (Nat.le_refl _) _⟩
  case round =>
    obtain ⟨k, D, hk, rfl, hown, hpd, hbel⟩ := hrel
    by_cases hlt : k < ns.length
    · obtain ⟨b, off, rfl⟩ := HR.out.addr hlt
      obtain ⟨hb, c0, c1, c2, c3⟩ := HR.out.at hbel hlt
      have hi0 : (0 : Int) ≤ (k : Int) := by omega
      have hi1 : (k : Int) < (ns.length : Int) := by omega
      have hfy := HF.out _ (getD_mem ns k hlt)
      have HT : Hid (ns.take (k + 1) = ns.take k ++ [ns.getD k Nd.zero]) := take_next ns k hlt
      generalize ns.getD k Nd.zero = y at c0 c1 c2 c3 HT hfy
      have HK : Hid _ := key_of hfy
      have hh := hpd.has y hfy
      have HP : Hid (PlacesD (ns.take k) D) := hpd
      have HY : Hid y.Fits := hfy
      have HL : Hid ((ns.take k).length = k) := by show _ = _; rw [List.length_take]; omega
      have hbs := hbel.size
      clear hpd hfy
      by_cases hfi : 0 ≤ findN (ns.take k) y
      · have hhas : Maps.has D (keyN y) = true := by rw [hh]; simpa using hfi
        have HN : Hid (PlacesD (ns.take (k + 1)) D) := by show PlacesD _ _; rw [HT.out]; exact HP.out.old hfi
        clear hh hfi
        go_wp2_with (at_lookup; refine wpList_lookup_own_ok_int _ rfl _ _ 117 rfl 87 3 .i64 nodeKeyed Try.underlying117 Try.underlying3 (zeroInt _) w.heap.size k D rfl (hown.alloc _) _ _ rfl HK.out ?_; intro c hat hwc)
        go_roundw
        case rel => exact ⟨k + 1, D, by omega, by go_num, (hown.alloc _).mono (by omega), HN.out, hbel.alloc hbs _⟩
        case measure => simp [intOf]; omega
      · have hhas : Maps.has D (keyN y) = false := by rw [hh]; simpa using hfi
        have hm1 : findN (ns.take k) y = -1 := by have := findN_range (ns.take k) y; omega
        have HN : Hid (PlacesD (ns.take (k + 1)) (D.put (keyN y) (.lit (.int .i64 (k : Int))))) := by
          show PlacesD _ _
          have := HP.out.new HY.out hm1
          rw [HL.out] at this
          rw [HT.out]; exact this
        clear hh hfi hm1
        go_wp2_with (first | (at_lookup; refine wpList_lookup_own_ok_int _ rfl _ _ 117 rfl 87 3 .i64 nodeKeyed Try.underlying117 Try.underlying3 (zeroInt _) w.heap.size k D rfl (hown.alloc _) _ _ rfl HK.out ?_; intro c hat hwc) | (at_mapUpdate; refine wpList_mapUpdate_own _ rfl _ _ _ 117 rfl 87 3 nodeKeyed Try.underlying117 _ w.heap.size k D rfl (hown.alloc _) ?c1 _ _ _ rfl rfl HK.out _ [] (plainElem_int Try.underlying3 ?c2) ?_; rotate_left 2; intro w1 hown1 hgrow1))
        case c1 => unfold maxLen; omega
        case c2 => exact WalkArith.wf_i64 (by omega)
        go_roundw
        case rel => exact ⟨k + 1, _, by omega, by go_num, hown1, HN.out, (hbel.alloc hbs _).grown hgrow1 (by simp; omega) (fun j hj => by cases hj; exact Nat.le_refl _)⟩
        case measure => simp [intOf]; omega
    · obtain rfl : k = ns.length := by omega
      rw [List.take_length] at hpd
      go_wp2
      go_ret
      exact ⟨D, rfl, hown, hpd, hbel⟩
end Go.Proofs.Ytnjihmailppjkaa
