/- The contracts of chapter 3's l03Copy, l03Put and Put, the specification's. -/
import Derived.Test.YtffnadnndmmliaaTermOk
import Derived.WalkKit
import Derived.WalkLawsBesides
import Derived.WalkSpells
import Derived.Laws.OwnMore
import Derived.Laws.AppendOwnNone
import Derived.Laws.Rows
import Derived.Laws.ResultCell
import Derived.Deep.QuietTactic
import Derived.BigQuiet
import Derived.Test.YtffnadnndmmliaaPlainTerm
import Derived.Maps.Own
import Derived.Maps.OwnOps
import Derived.Maps.OwnSet
import Derived.DeepKeys4
import Derived.WalkArith
namespace Go.Proofs.Ytffnadnndmmliaa
open Go.RowKit

/-- Nodes in a row that the call owns. -/
def OwnN (base : Nat) (w : World) (v : Value) (ns : List Nd) : Prop := w.ownsRow base 45 4 v ns.length (cellsN ns)
theorem infoNode : (Try.prog.info? 45).map (fun i => (i.zero, i.size, i.bytes)) = some (some (.agg #[.int .i64 0, .int .i64 0, .int .i64 0, .int .i64 0]), 4, 32) := by kernel_rfl
theorem cells_one (ns : List Nd) : ∀ u ∈ cellsN ns, u.oneCell' = true := by
  intro u hu
  simp only [cellsN, List.mem_flatMap, Nd.cells] at hu
  obtain ⟨x, _, hx⟩ := hu
  simp only [List.mem_cons, List.not_mem_nil, or_false] at hx
  rcases hx with rfl | rfl | rfl | rfl <;> rfl
theorem add_off (b off j : Nat) : (⟨b, off, none⟩ : Addr).add j = ⟨b, off + j, none⟩ := by unfold Addr.add; split <;> simp_all
theorem cellsN_mod (ns : List Nd) (j : Nat) (hj : j < ns.length * 4) : (cellsN ns)[j]? = ((ns.getD (j / 4) Nd.zero).cells)[j % 4]? := by
  have hi : j / 4 < ns.length := by omega
  have h := cellsN_at ns (j / 4) (j % 4) (ns.getD (j / 4) Nd.zero) (by rw [List.getD_eq_getElem?_getD, List.getElem?_eq_getElem hi]; rfl) (by omega)
  rw [← h]
  congr 1; omega
/-- The cells of a row of nodes in memory, one by one. -/
theorem RowN.cells {B : Nat} {w : World} {b off : Nat} {ns : List Nd} (h : RowN B w (some ⟨b, off, none⟩) ns) : ∀ j u, (cellsN ns)[j]? = some u → w.cell? ((⟨b, off, none⟩ : Addr).add j) = some u := by
  intro j u hu
  have hj : j < ns.length * 4 := by
    have := (List.getElem?_eq_some_iff.1 hu).1
    rw [cellsN_len] at this; exact this
  rw [cellsN_mod ns j hj] at hu
  obtain ⟨_, c0, c1, c2, c3⟩ := h.at (Below.refl _ _) (i := j / 4) (by omega)
  rw [add_off]
  have e : off + j = off + j / 4 * 4 + j % 4 := by omega
  rw [e]
  rcases (show j % 4 = 0 ∨ j % 4 = 1 ∨ j % 4 = 2 ∨ j % 4 = 3 by omega) with h4 | h4 | h4 | h4 <;> rw [h4] at hu ⊢ <;> simp [Nd.cells] at hu <;> subst hu <;> assumption
/-- A slice's address: nil, or a place. -/
def AddrN (a : Option Addr) (cap : Nat) : Prop := (a = none ∧ cap = 0) ∨ ∃ b off, a = some ⟨b, off, none⟩
/-- An owned row, as a row in memory. -/
theorem OwnN.row {base : Nat} {w : World} {v : Value} {ns : List Nd} (h : OwnN base w v ns) : ∃ a cap, v = .slice a ns.length cap ∧ AddrN a cap ∧ RowN w.heap.size w a ns := by
  have h' := h
  rcases h.2 with ⟨rfl, h0⟩ | ⟨g, cap, cur, rfl, hg, hb, hc, hm, hsz, htake⟩
  · exact ⟨none, 0, by rw [h0], .inl ⟨rfl, rfl⟩, .inl (List.length_eq_zero_iff.1 h0)⟩
  · refine ⟨some ⟨g, 0, none⟩, cap, rfl, .inr ⟨g, 0, rfl⟩, ?_⟩
    rcases Nat.eq_zero_or_pos ns.length with h0 | h0
    · exact .inl (List.length_eq_zero_iff.1 h0)
    · refine .inr ⟨g, 0, rfl, (Array.getElem?_eq_some_iff.1 hb).1, fun i hi => ?_⟩
      have hx : ns[i]? = some (ns.getD i Nd.zero) := by rw [List.getD_eq_getElem?_getD, List.getElem?_eq_getElem hi]; rfl
      have key : ∀ j u, j < 4 → (ns.getD i Nd.zero).cells[j]? = some u → w.cell? ⟨g, 0 + i * 4 + j, none⟩ = some u := fun j u hj hu => by
        have := h'.cells (g := g) rfl (i * 4 + j) u (by rw [cellsN_at ns i j _ hx hj]; exact hu)
        rw [add_off] at this
        rw [show 0 + i * 4 + j = 0 + (i * 4 + j) by omega]; exact this
      exact ⟨key 0 _ (by omega) rfl, key 1 _ (by omega) rfl, key 2 _ (by omega) rfl, key 3 _ (by omega) rfl⟩

theorem own_new {base : Nat} (w : World) (h : base ≤ w.heap.size) : OwnN base (w.alloc (.cells #[] 45)) (.slice (some ⟨w.heap.size, 0, none⟩) 0 0) [] :=
  ⟨rfl, .inr ⟨w.heap.size, 0, #[], rfl, h, heap_alloc_new w _, Nat.le_refl _, by decide, rfl, rfl⟩⟩
/-- What a function hands back whose first result is a struct in memory. -/
theorem res_cell2 {P : Program} {fn : Func} {p u : Tmp} {ty : TypeId} (h : fn.results = #[.cell p ty, .tmp u]) (tmps : Array Value) (w : World) (g : Nat) (t : TypeId) (cs : Array Value) (fr : Nat × Nat) (d : TypeDesc)
    (hp : tmps.getD p undef = .pointer (some ⟨g, 0, none⟩)) (hg : w.heap[g]? = some (.cells cs t fr))
    (hu : P.underlying ty = some d) (hd : (match d with | .struct _ | .array _ _ => true | _ => false) = true) (hi : (P.info? ty).map (·.size) = some cs.size) :
    (results fn tmps).run P w = .ok (.tuple #[.agg cs, tmps.getD u undef]) w := by
  rw [results_cell_tmp h, hp]
  simp [asAddr, run_loadVar_row w g t ty cs fr d hg hu hd hi]
theorem res_cell3 {P : Program} {fn : Func} {p u v : Tmp} {ty : TypeId} (h : fn.results = #[.cell p ty, .tmp u, .tmp v]) (tmps : Array Value) (w : World) (g : Nat) (t : TypeId) (cs : Array Value) (fr : Nat × Nat) (d : TypeDesc)
    (hp : tmps.getD p undef = .pointer (some ⟨g, 0, none⟩)) (hg : w.heap[g]? = some (.cells cs t fr))
    (hu : P.underlying ty = some d) (hd : (match d with | .struct _ | .array _ _ => true | _ => false) = true) (hi : (P.info? ty).map (·.size) = some cs.size) :
    (results fn tmps).run P w = .ok (.tuple #[.agg cs, tmps.getD u undef, tmps.getD v undef]) w := by
  have hp' : tmps[p]?.getD undef = .pointer (some ⟨g, 0, none⟩) := by simpa using hp
  simp [results, h, hp', asAddr, run_loadVar_row w g t ty cs fr d hg hu hd hi]
theorem arenaSize : (Try.prog.info? 28).map (·.size) = some 1 := by kernel_rfl
theorem OwnN.base {base base' : Nat} {w : World} {v : Value} {ns : List Nd} (h : OwnN base w v ns) (hb : base' ≤ base) : OwnN base' w v ns := by
  refine ⟨h.1, ?_⟩
  rcases h.2 with h0 | ⟨g, cap, cur, e, hg, rest⟩
  · exact .inl h0
  · exact .inr ⟨g, cap, cur, e, Nat.le_trans hb hg, rest⟩
set_option maxHeartbeats 400000 in
theorem specCopy_any (a : Option Addr) (cap : Nat) (ns : List Nd) (w : World) (hl : ns.length ≤ 1048576) (ha : AddrN a cap) (hr : RowN w.heap.size w a ns) :
    Calls Try.prog 76 #[.agg #[.slice a ns.length cap]] w fun e w' => ∃ v, e = .returned (.agg #[v]) ∧ OwnN w.heap.size w' v ns ∧ Below w.heap.size w w' := by
  obtain ⟨i0, hi, hz0, hz1, hz2⟩ := info_parts infoNode
  have HR : Hid (RowN w.heap.size w a ns) := hr
  clear hr
  have HB0 : Hid (∀ r : Value, Below w.heap.size w (((w.alloc (.cells #[.slice a ns.length cap] 28)).alloc (.cells #[r] 28)).alloc (.cells #[] 45))) := fun r => (((Below.refl _ _).alloc (Nat.le_refl _) _).alloc (by simp) _).alloc (by simp; omega) _
  have HO : Hid (∀ r : Value, OwnN (w.heap.size + 1 + 1) (((w.alloc (.cells #[.slice a ns.length cap] 28)).alloc (.cells #[r] 28)).alloc (.cells #[] 45)) (.slice (some ⟨w.heap.size + 1 + 1, 0, none⟩) 0 0) []) := fun r => by
    have := own_new (base := w.heap.size + 1 + 1) ((w.alloc (.cells #[.slice a ns.length cap] 28)).alloc (.cells #[r] 28)) (by simp)
    simpa using this
  rcases ha with ⟨rfl, rfl⟩ | ⟨b, off, rfl⟩
  · rcases HR.out with h0 | ⟨_, _, e, _⟩
    · subst h0
      go_enter Try.func76, Try.ntmps76
      go_wp2_with fail
      refine bodyPost_ret (results_cell_row rfl _ _ (w.heap.size + 1) 28 #[.slice (some ⟨w.heap.size + 1 + 1, 0, none⟩) 0 0] (0, 0) _ rfl ?_ Try.underlying28 rfl arenaSize) rfl ?_
      · rw [heap_alloc_old _ _ (by simp)]
        have := heap_alloc_new (w.alloc (.cells #[.slice none 0 0] 28)) (.cells #[.slice (some ⟨w.heap.size + 1 + 1, 0, none⟩) 0 0] 28)
        simpa using this
      · exact ⟨_, rfl, (HO.out _).base (by omega), HB0.out _⟩
    · cases e
  · go_enter Try.func76, Try.ntmps76
    go_wp2_with (at_builtin; refine wpList_append_own _ rfl _ _ 26 rfl (w.heap.size + 1 + 1) 45 i0 _ 4 32 Try.underlying26 hi hz0 hz1 hz2 rfl (by decide) _ 0 _ rfl (HO.out _) ⟨b, off, none⟩ ns.length cap (cellsN ns) rfl (cellsN_len ns) ?c1 (cells_one ns) ?c3 ?c4 ?c5 ?_)
    case c1 => exact (HR.out.later (HB0.out _)).cells
    case c3 => unfold maxLen; omega
    case c4 => omega
    case c5 => simp
    · intro v' w2 hown' hgrow _
      have hown2 : OwnN (w.heap.size + 1 + 1) w2 v' ns := by
        have e : cellsN [] ++ cellsN ns = cellsN ns := rfl
        rw [e] at hown'; unfold OwnN; simpa using hown'
      obtain ⟨a2, cap2, rfl, _, _⟩ := hown2.row
      have hblk : w2.heap[w.heap.size + 1]? = some (.cells #[.slice none 0 0] 28 (0, 0)) := by
        rw [hgrow.block (w.heap.size + 1) (by simp) (by simp [Value.ownBlock]), heap_alloc_old _ _ (by simp)]
        have := heap_alloc_new (w.alloc (.cells #[.slice (some ⟨b, off, none⟩) ns.length cap] 28)) (.cells #[.slice none 0 0] 28)
        simpa using this
      have hc0 : w2.cell? ⟨w.heap.size + 1, 0, none⟩ = some (.slice none 0 0) := by rw [cell_of_row w2 (w.heap.size + 1) 0 _ _ _ hblk]; rfl
      have hf0 : w2.frozen? ⟨w.heap.size + 1, 0, none⟩ = false := frozen_of_row w2 (w.heap.size + 1) 0 _ _ hblk
      have hB2 : Below w.heap.size w w2 := (HB0.out _).grown hgrow (by simp; omega) (fun k hk => by simp [Value.ownBlock] at hk; omega)
      have HB2 : Hid (Below w.heap.size w (w2.setCell ⟨w.heap.size + 1, 0, none⟩ (.slice a2 ns.length cap2))) := hB2.setCell (by simp) _
      have HO2 : Hid (OwnN w.heap.size (w2.setCell ⟨w.heap.size + 1, 0, none⟩ (.slice a2 ns.length cap2)) (.slice a2 ns.length cap2) ns) := OwnN.base (ownsRow_setCell_below hown2 (by simp) _) (by omega)
      have HBL : Hid ((w2.setCell ⟨w.heap.size + 1, 0, none⟩ (.slice a2 ns.length cap2)).heap[w.heap.size + 1]? = some (.cells #[.slice a2 ns.length cap2] 28 (0, 0))) := by
        show _ = _
        rw [heap_setCell_same w2 (w.heap.size + 1) 0 _ _ _ hblk]; rfl
      clear hown' hgrow hblk hown2 hB2
      go_wp2
      refine bodyPost_ret (results_cell_row rfl _ _ (w.heap.size + 1) 28 #[.slice a2 ns.length cap2] (0, 0) _ rfl ?_ Try.underlying28 rfl arenaSize) rfl ?_
      · exact HBL.out
      · exact ⟨_, rfl, HO2.out, HB2.out⟩
end Go.Proofs.Ytffnadnndmmliaa

namespace Go.Proofs.Ytffnadnndmmliaa
open Go.RowKit Go.Maps
set_option linter.unusedVariables false

theorem laidOutP : laidOutB Try.prog = true := by kernel_rfl
theorem nodeKeyed : Keyed Try.prog 45 := Keyed.of_law (deep_law_laid laidOutP (m := 3) (by omega) (of_decide_eq_true (by kernel_rfl)) (by kernel_rfl) (by kernel_rfl))
theorem keyTypeN (k n a b : Int) : (Try.prog.keyType 45 && (Value.agg #[.int .i64 k, .int .i64 n, .int .i64 a, .int .i64 b]).formed Try.prog 45) = true := by kernel_rfl
theorem cellsINode : Try.prog.cellsOf 45 = 4 := by kernel_rfl
theorem cellsIInt : Try.prog.cellsOf 3 = 1 := by kernel_rfl
theorem typesPos : ∃ d, Try.prog.types.size + 1 = d + 1 + 1 := ⟨Try.prog.types.size - 1, by have : 0 < Try.prog.types.size := of_decide_eq_true (by kernel_rfl); omega⟩
theorem key_any (x : Nd) (hf : x.Fits) : ∃ l, keyOf Try.prog 45 (.agg #[.int .i64 x.k, .int .i64 x.n, .int .i64 x.a, .int .i64 x.b]) = some l := by
  obtain ⟨⟨a0, a1⟩, ⟨b0, b1⟩, ⟨c0, c1⟩, ⟨d0, d1⟩⟩ := hf
  have w0 : (Lit.int .i64 x.k).wf = true := WalkArith.wf_i64 ⟨a0, a1⟩
  have w1 : (Lit.int .i64 x.n).wf = true := WalkArith.wf_i64 ⟨b0, b1⟩
  have w2 : (Lit.int .i64 x.a).wf = true := WalkArith.wf_i64 ⟨c0, c1⟩
  have w3 : (Lit.int .i64 x.b).wf = true := WalkArith.wf_i64 ⟨d0, d1⟩
  unfold keyOf
  rw [Try.underlying45]
  simp only []
  rw [if_pos (keyTypeN _ _ _ _)]
  obtain ⟨d, hd⟩ := typesPos
  rw [hd]
  simp [Program.keyLits, Try.underlying45, Try.underlying3, Value.cells, cellsINode, cellsIInt, w0, w1, w2, w3]

/-- What a node reads as, as a key. -/
noncomputable def keyN (x : Nd) : Lit := (keyOf Try.prog 45 (.agg #[.int .i64 x.k, .int .i64 x.n, .int .i64 x.a, .int .i64 x.b])).getD (.bool false)
theorem key_of {x : Nd} (hf : x.Fits) : keyOf Try.prog 45 (.agg #[.int .i64 x.k, .int .i64 x.n, .int .i64 x.a, .int .i64 x.b]) = some (keyN x) := by
  obtain ⟨l, h⟩ := key_any x hf
  unfold keyN; rw [h]; rfl
theorem keyN_inj {x y : Nd} (hx : x.Fits) (hy : y.Fits) (h : keyN x = keyN y) : x = y := by
  have h1 := key_of hx
  rw [h] at h1
  have h2 := nodeKeyed.inj h1 (key_of hy)
  simp only [Value.agg.injEq, Array.mk.injEq, List.cons.injEq, Value.int.injEq, true_and, and_true] at h2
  exact (nd_eq x y).2 ⟨h2.1, h2.2.1, h2.2.2.1, h2.2.2.2⟩
set_option maxRecDepth 100000 in
theorem keyN_key {x : Nd} (hx : x.Fits) : WideAt.IsKeyLit (keyN x) := nodeKeyed.key (key_of hx)

/-- What the map of first places holds of the nodes ns. -/
structure PlacesD (ns : List Nd) (D : DataW Unit) : Prop where
  tidy : Tidy D
  has : ∀ x : Nd, x.Fits → Maps.has D (keyN x) = decide (0 ≤ findN ns x)
  at' : ∀ x : Nd, x.Fits → 0 ≤ findN ns x → ∀ z, D.atKey (keyN x) z = .lit (.int .i64 (findN ns x))
  size : Maps.size D = dcN ns ns.length
theorem PlacesD.start : PlacesD [] (.map []) := ⟨tidy_empty, fun x _ => by simp [Maps.has, findN, findFrom], fun x _ h => by simp [findN, findFrom] at h, rfl⟩
set_option maxRecDepth 100000 in
theorem PlacesD.new {ns : List Nd} {D : DataW Unit} {x : Nd} (h : PlacesD ns D) (hx : x.Fits) (hn : findN ns x = -1) : PlacesD (ns ++ [x]) (D.put (keyN x) (.lit (.int .i64 (ns.length : Int)))) := by
  refine ⟨h.tidy.put (keyN_key hx) _, fun y hy => ?_, fun y hy h0 z => ?_, ?_⟩
  · rw [findN_snoc]
    by_cases e : x = y
    · subst e
      rw [has_put_same h.tidy.isMap (keyN_key hx), hn]; simp
    · rw [has_put_other (fun e2 => e (keyN_inj hy hx e2).symm), h.has y hy]
      by_cases h0 : 0 ≤ findN ns y
      · rw [if_pos h0]
      · rw [if_neg h0, if_neg e]; simp; omega
  · rw [findN_snoc] at h0 ⊢
    by_cases e : x = y
    · subst e
      rw [atKey_put_same h.tidy.isMap (keyN_key hx), hn]; simp
    · rw [atKey_put_other (fun e2 => e (keyN_inj hy hx e2).symm)]
      by_cases h1 : 0 ≤ findN ns y
      · rw [if_pos h1]; exact h.at' y hy h1 z
      · rw [if_neg h1, if_neg e] at h0; omega
  · rw [size_put h.tidy, h.has x hx, dcN_snoc, hn, h.size]; simp
theorem PlacesD.old {ns : List Nd} {D : DataW Unit} {x : Nd} (h : PlacesD ns D) (hn : 0 ≤ findN ns x) : PlacesD (ns ++ [x]) D := by
  have e : ∀ y, findN (ns ++ [x]) y = findN ns y := fun y => by
    rw [findN_snoc]
    by_cases h0 : 0 ≤ findN ns y
    · rw [if_pos h0]
    · rw [if_neg h0, if_neg (fun e : x = y => h0 (e ▸ hn))]
      have := findN_range ns y
      omega
  exact ⟨h.tidy, fun y hy => by rw [e, h.has y hy], fun y hy h0 z => by rw [e] at h0 ⊢; exact h.at' y hy h0 z, by rw [dcN_snoc, if_neg (by omega), h.size]; rfl⟩

theorem zeroInt (w : World) : (zeroValue 3).run Try.prog w = .ok (.int .i64 0) w := by kernel_rfl
theorem make_places (n : Int) (w : World) : (Instr.makeMap 102 (some (.int .i64 n))).run Try.prog w = .ok (.map (some w.heap.size)) (w.alloc (.map #[] 0)) := by kernel_rfl
theorem take_next (ns : List Nd) (k : Nat) (h : k < ns.length) : ns.take (k + 1) = ns.take k ++ [ns.getD k Nd.zero] := by
  rw [List.take_succ_eq_append_getElem h, List.getD_eq_getElem?_getD, List.getElem?_eq_getElem h]; rfl
theorem getD_mem (ns : List Nd) (k : Nat) (h : k < ns.length) : ns.getD k Nd.zero ∈ ns := by
  rw [List.getD_eq_getElem?_getD, List.getElem?_eq_getElem h]; exact List.getElem_mem _
set_option maxHeartbeats 1600000 in
set_option maxRecDepth 100000 in
theorem placesOf_any (a : Option Addr) (cap : Nat) (ns : List Nd) (w : World) (hl : ns.length ≤ 1048576) (hf : ∀ y ∈ ns, y.Fits) (hr : RowN w.heap.size w a ns) :
    Calls Try.prog 97 #[.slice a ns.length cap] w fun e w' => ∃ D, e = .returned (.map (some w.heap.size)) ∧ w'.ownsMap Try.prog 45 (plainElem Try.prog 3) w.heap.size ns.length D ∧ PlacesD ns D ∧ Below w.heap.size w w' := by
  have HR : Hid (RowN w.heap.size w a ns) := hr
  have HF : Hid (∀ y ∈ ns, y.Fits) := hf
  clear hr hf
  have hmm := make_places
  go_enter Try.func97, Try.ntmps97
  go_wp2
  go_loopw [13] (fun i wr => ∃ (k : Nat) (D : DataW Unit), k ≤ ns.length ∧ i = .int .i64 (k : Int) ∧ wr.ownsMap Try.prog 45 (plainElem Try.prog 3) w.heap.size k D ∧ PlacesD (ns.take k) D ∧ Below w.heap.size w wr)
    (fun i _ => ns.length - (intOf i).toNat)
  case atStart => exact ⟨0, .map [], Nat.zero_le _, rfl, World.ownsMap_made _ _ _ _, PlacesD.start, (Below.refl _ _).alloc (Nat.le_refl _) _⟩
  case round =>
    obtain ⟨k, D, hk, rfl, hown, hpd, hbel⟩ := hrel
    by_cases hlt : k < ns.length
    · obtain ⟨b, off, rfl⟩ := HR.out.addr hlt
      obtain ⟨hb, c0, c1, c2, c3⟩ := HR.out.at hbel hlt
      have hi0 : (0 : Int) ≤ (k : Int) := by omega
      have hi1 : (k : Int) < (ns.length : Int) := by omega
      have hfy := HF.out _ (getD_mem ns k hlt)
      have HT : Hid (ns.take (k + 1) = ns.take k ++ [ns.getD k Nd.zero]) := take_next ns k hlt
      generalize ns.getD k Nd.zero = y at c0 c1 c2 c3 HT hfy
      have HK : Hid _ := key_of hfy
      have hh := hpd.has y hfy
      have HP : Hid (PlacesD (ns.take k) D) := hpd
      have HY : Hid y.Fits := hfy
      have HL : Hid ((ns.take k).length = k) := by show _ = _; rw [List.length_take]; omega
      have hbs := hbel.size
      clear hpd hfy
      by_cases hfi : 0 ≤ findN (ns.take k) y
      · have hhas : Maps.has D (keyN y) = true := by rw [hh]; simpa using hfi
        have HN : Hid (PlacesD (ns.take (k + 1)) D) := by show PlacesD _ _; rw [HT.out]; exact HP.out.old hfi
        clear hh hfi
        go_wp2_with (at_lookup; refine wpList_lookup_own_ok_int _ rfl _ _ 102 rfl 45 3 .i64 nodeKeyed Try.underlying102 Try.underlying3 (zeroInt _) w.heap.size k D rfl (hown.alloc _) _ _ rfl HK.out ?_; intro c hat hwc)
        go_roundw
        case rel => exact ⟨k + 1, D, by omega, by go_num, (hown.alloc _).mono (by omega), HN.out, hbel.alloc hbs _⟩
        case measure => simp [intOf]; omega
      · have hhas : Maps.has D (keyN y) = false := by rw [hh]; simpa using hfi
        have hm1 : findN (ns.take k) y = -1 := by have := findN_range (ns.take k) y; omega
        have HN : Hid (PlacesD (ns.take (k + 1)) (D.put (keyN y) (.lit (.int .i64 (k : Int))))) := by
          show PlacesD _ _
          have := HP.out.new HY.out hm1
          rw [HL.out] at this
          rw [HT.out]; exact this
        clear hh hfi hm1
        go_wp2_with (first | (at_lookup; refine wpList_lookup_own_ok_int _ rfl _ _ 102 rfl 45 3 .i64 nodeKeyed Try.underlying102 Try.underlying3 (zeroInt _) w.heap.size k D rfl (hown.alloc _) _ _ rfl HK.out ?_; intro c hat hwc) | (at_mapUpdate; refine wpList_mapUpdate_own _ rfl _ _ _ 102 rfl 45 3 nodeKeyed Try.underlying102 _ w.heap.size k D rfl (hown.alloc _) ?c1 _ _ _ rfl rfl HK.out _ [] (plainElem_int Try.underlying3 ?c2) ?_; rotate_left 2; intro w1 hown1 hgrow1))
        case c1 => unfold maxLen; omega
        case c2 => exact WalkArith.wf_i64 (by omega)
        go_roundw
        case rel => exact ⟨k + 1, _, by omega, by go_num, hown1, HN.out, (hbel.alloc hbs _).grown hgrow1 (by simp; omega) (fun j hj => by cases hj; exact Nat.le_refl _)⟩
        case measure => simp [intOf]; omega
    · obtain rfl : k = ns.length := by omega
      rw [List.take_length] at hpd
      go_wp2
      go_ret
      exact ⟨D, rfl, hown, hpd, hbel⟩
end Go.Proofs.Ytffnadnndmmliaa
