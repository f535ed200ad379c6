/- The contracts of chapter 3's NodeOk and placeFor, the program's. -/
import Derived.Test.YtlmkkkpjcpopkaaImplT
import Derived.WalkKit
import Derived.WalkLawsBesides
import Derived.WalkSpells
import Derived.Test.YtlmkkkpjcpopkaaHeldQ
import Derived.Test.YtlmkkkpjcpopkaaPlainText
import Derived.Test.YtlmkkkpjcpopkaaPlain
import Derived.OwnWalk
import Derived.Laws.OwnMore
import Derived.Deep.QuietTactic
import Derived.BigQuiet
import Derived.Test.YtlmkkkpjcpopkaaLawArena2
import Derived.Test.YtlmkkkpjcpopkaaPlainPlaces
import Derived.Laws.MakeOwn
import Derived.Laws.AppendOwnNone
import Derived.Laws.Rows
import Derived.Laws.ResultCell
import Derived.Deep.RegionLaw
import Derived.BigRegion
import Derived.OneCell
import Derived.Deep.AppendLies
namespace Go.Proofs.Ytlmkkkpjcpopkaa
open Go.RowKit
set_option linter.unusedVariables false

theorem implOk_no (a : Option Addr) (cap : Nat) (ns : List Nd) (k : Int) (w : World) (hl : ns.length ≤ 1048576) (h : inB k 0 ((ns.length : Int) - 1) = false) :
    Calls Try.prog 162 #[.agg #[.slice a ns.length cap], .int .i64 k] w fun e w' => e = .returned (.bool false) ∧ Below w.heap.size w w' := by
  go_enter Try.func162, Try.ntmps162
  go_wp2_with fail
  refine (ahead_any _ _ _).mono ?_
  rintro e w' ⟨rfl, rfl⟩
  rw [h]
  go_wp2
  go_ret
  exact ⟨rfl, (Below.refl _ _).alloc (Nat.le_refl _) _⟩
theorem implOk_yes (a : Option Addr) (cap : Nat) (ns : List Nd) (i : Nat) (w : World) (hl : ns.length ≤ 1048576) (hi : i < ns.length) (hr : RowN w.heap.size w a ns) :
    Calls Try.prog 162 #[.agg #[.slice a ns.length cap], .int .i64 (i : Int)] w fun e w' => e = .returned (.bool (nodeB (ns.getD i Nd.zero) i)) ∧ Below w.heap.size w w' := by
  have H : Hid (inB (i : Int) 0 ((ns.length : Int) - 1) = true) := by show _ = _; unfold inB; simp; omega
  obtain ⟨b, off, rfl⟩ := hr.addr hi
  obtain ⟨hb, c0, c1, c2, c3⟩ := hr.at (Below.refl _ _) hi
  have hi0 : (0 : Int) ≤ (i : Int) := by omega
  have hi1 : (i : Int) < (ns.length : Int) := by omega
  clear hr
  generalize ns.getD i Nd.zero = y at c0 c1 c2 c3 ⊢
  go_enter Try.func162, Try.ntmps162
  go_wp2_with fail
  refine (ahead_any _ _ _).mono ?_
  rintro e w' ⟨rfl, rfl⟩
  rw [H.out]
  go_wp2_with fail
  refine (right_any y i _).mono ?_
  rintro e w' ⟨v, rfl, hb1⟩
  go_wp2
  go_ret
  exact ⟨rfl, ((Below.refl _ _).alloc (Nat.le_refl _) _).trans (hb1.mono (by simp))⟩
theorem implOk_any (a : Option Addr) (cap : Nat) (ns : List Nd) (k : Int) (w : World) (hl : ns.length ≤ 1048576) (hr : RowN w.heap.size w a ns) :
    Calls Try.prog 162 #[.agg #[.slice a ns.length cap], .int .i64 k] w fun e w' => e = .returned (.bool (okAt ns k)) ∧ Below w.heap.size w w' := by
  cases h : inB k 0 ((ns.length : Int) - 1) with
  | false =>
    have e : okAt ns k = false := by unfold okAt; rw [h]; rfl
    rw [e]
    exact implOk_no a cap ns k w hl h
  | true =>
    have h' := h
    unfold inB at h'
    simp at h'
    obtain ⟨i, rfl⟩ : ∃ i : Nat, k = (i : Int) := ⟨k.toNat, by omega⟩
    have e : okAt ns (i : Int) = nodeB (ns.getD i Nd.zero) i := by unfold okAt; rw [h]; simp
    rw [e]
    exact implOk_yes a cap ns i w hl (by omega) hr

/-- Where a node comes to stand among e nodes, f the first that is it. -/
def placeB (x : Nd) (e f mx : Int) : Int := if nodeB x e = true then (if 0 ≤ f then f else if mx ≤ e then -1 else e) else -1
theorem placeFor_any (x : Nd) (e f mx : Int) (w : World) :
    Calls Try.prog 166 #[.agg #[.int .i64 x.k, .int .i64 x.n, .int .i64 x.a, .int .i64 x.b], .int .i64 e, .int .i64 f, .int .i64 mx] w fun r w' => r = .returned (.int .i64 (placeB x e f mx)) ∧ Below w.heap.size w w' := by
  obtain ⟨d, HD⟩ : ∃ d, Hid (nodeB x e = d) := ⟨_, rfl⟩
  have HP : Hid (placeB x e f mx = if d = true then (if 0 ≤ f then f else if mx ≤ e then -1 else e) else -1) := by show _ = _; unfold placeB; rw [HD.out]
  cases d
  · go_enter Try.func166, Try.ntmps166
    go_wp2_with fail
    refine (right_any x e _).mono ?_
    rintro r w1 ⟨v, rfl, hb1⟩
    rw [HD.out]
    go_wp2
    go_ret
    exact ⟨by rw [HP.out]; rfl, ((Below.refl _ _).alloc (Nat.le_refl _) _).trans (hb1.mono (by simp))⟩
  · by_cases h0 : 0 ≤ f
    · have HQ : Hid (placeB x e f mx = f) := by show _ = _; rw [HP.out, if_pos rfl, if_pos h0]
      go_enter Try.func166, Try.ntmps166
      go_wp2_with fail
      refine (right_any x e _).mono ?_
      rintro r w1 ⟨v, rfl, hb1⟩
      rw [HD.out]
      go_wp2
      go_ret
      exact ⟨by rw [HQ.out]; rfl, ((Below.refl _ _).alloc (Nat.le_refl _) _).trans (hb1.mono (by simp))⟩
    · by_cases h1 : mx ≤ e
      · have HQ : Hid (placeB x e f mx = -1) := by show _ = _; rw [HP.out, if_pos rfl, if_neg h0, if_pos h1]
        go_enter Try.func166, Try.ntmps166
        go_wp2_with fail
        refine (right_any x e _).mono ?_
        rintro r w1 ⟨v, rfl, hb1⟩
        rw [HD.out]
        go_wp2
        go_ret
        exact ⟨by rw [HQ.out]; rfl, ((Below.refl _ _).alloc (Nat.le_refl _) _).trans (hb1.mono (by simp))⟩
      · have HQ : Hid (placeB x e f mx = e) := by show _ = _; rw [HP.out, if_pos rfl, if_neg h0, if_neg h1]
        go_enter Try.func166, Try.ntmps166
        go_wp2_with fail
        refine (right_any x e _).mono ?_
        rintro r w1 ⟨v, rfl, hb1⟩
        rw [HD.out]
        go_wp2
        go_ret
        exact ⟨by rw [HQ.out]; rfl, ((Below.refl _ _).alloc (Nat.le_refl _) _).trans (hb1.mono (by simp))⟩
/-- Put where there is room for as many as mx tells. -/
def putAm (mx : Nat) (ns : List Nd) (x : Nd) : List Nd := if nodeB x ns.length = true ∧ findN ns x = -1 ∧ ns.length < mx then ns ++ [x] else ns
def putKm (mx : Nat) (ns : List Nd) (x : Nd) : Int := if nodeB x ns.length = true then (if findN ns x = -1 ∧ ns.length < mx then (ns.length : Int) else findN ns x) else -1
theorem putAm_is (ns : List Nd) (x : Nd) : putAm 3000 ns x = putA ns x := rfl
theorem putKm_is (ns : List Nd) (x : Nd) : putKm 3000 ns x = putK ns x := rfl
/-- placeFor, at the first place of the node: as Put says. -/
theorem placeB_put (mx : Nat) (ns : List Nd) (x : Nd) : placeB x ns.length (findN ns x) (mx : Int) = putKm mx ns x := by
  unfold placeB putKm
  cases nodeB x (ns.length : Int)
  · rfl
  · have := findN_range ns x
    simp only [if_true]
    by_cases h0 : 0 ≤ findN ns x
    · rw [if_pos h0, if_neg (by omega)]
    · rw [if_neg h0]
      by_cases h1 : (mx : Int) ≤ ns.length
      · rw [if_pos h1, if_neg (by omega)]; omega
      · rw [if_neg h1, if_pos (by omega)]
end Go.Proofs.Ytlmkkkpjcpopkaa

namespace Go.Proofs.Ytlmkkkpjcpopkaa
open Go.RowKit
set_option linter.unusedVariables false

theorem sizes_next (ns : List Nd) (k : Nat) {s : Int} (h : szv ns k = s) : (sizesN ns (k + 1)).map (Value.int .i64) = (sizesN ns k).map (Value.int .i64) ++ [.int .i64 s] := by
  rw [sizesN, ← szv_eq, h]; simp
theorem sizes_range (ns : List Nd) (m : Nat) : ∀ j, 0 ≤ (sizesN ns m).getD j 0 ∧ (sizesN ns m).getD j 0 ≤ 100000 := fun j => by
  by_cases h : j < m
  · rw [szv_at ns m j h]; exact szv_le ns j
  · rw [List.getD_eq_getElem?_getD, List.getElem?_eq_none (by rw [sizesN_len]; omega)]; simp
theorem szOne_right {out : List Int} {i : Nat} {x : Nd} (h : nodeB x i = true) (hp : 0 < i → out.getD (i - 1) 0 ≠ 0) : szOne out i x = if 100000 < (if x.k = 1 then (1 : Int) else if oneK x.k = true then 1 + out.getD x.a.toNat 0 else 1 + out.getD x.a.toNat 0 + out.getD x.b.toNat 0) then 100000 else (if x.k = 1 then (1 : Int) else if oneK x.k = true then 1 + out.getD x.a.toNat 0 else 1 + out.getD x.a.toNat 0 + out.getD x.b.toNat 0) := by
  rw [szOne, if_neg]
  rintro (e | ⟨e1, e2⟩)
  · rw [h] at e; simp at e
  · exact hp e1 e2
end Go.Proofs.Ytlmkkkpjcpopkaa

namespace Go.Proofs.Ytlmkkkpjcpopkaa
open Go.RowKit
set_option linter.unusedVariables false

end Go.Proofs.Ytlmkkkpjcpopkaa

namespace Go.Proofs.Ytlmkkkpjcpopkaa
open Go.RowKit
set_option linter.unusedVariables false

/-- What a row of sizes holds up to i. -/
theorem sizes_cells {ns : List Nd} {w : World} {base g n i : Nat} {xs : List Value} (h : w.ownsRow base 3 1 (.slice (some ⟨g, 0, none⟩) n n) n xs) (ht : xs.take i = (sizesN ns i).map (Value.int .i64)) (hi : i ≤ n) : ∀ j, j < i → w.cell? ⟨g, j, none⟩ = some (.int .i64 (szv ns j)) := by
  intro j hj
  rw [h.cellAt j (by omega)]
  have : xs[j]? = (xs.take i)[j]? := by rw [List.getElem?_take, if_pos hj]
  rw [this, ht, List.getElem?_map]
  have e := szv_at ns i j hj
  rw [List.getD_eq_getElem?_getD, List.getElem?_eq_getElem (by rw [sizesN_len]; exact hj)] at e
  rw [List.getElem?_eq_getElem (by rw [sizesN_len]; exact hj)]
  simp only [Option.getD_some] at e
  rw [e]; rfl
theorem sizes_set {ns : List Nd} {xs : List Value} {i : Nat} (ht : xs.take i = (sizesN ns i).map (Value.int .i64)) (hi : i < xs.length) : (xs.set i (.int .i64 (szv ns i))).take (i + 1) = (sizesN ns (i + 1)).map (Value.int .i64) := by
  rw [sizes_next ns i rfl, ← ht]
  apply List.ext_getElem?
  intro j
  rw [List.getElem?_take]
  by_cases h1 : j < i
  · rw [if_pos (by omega), List.getElem?_append_left (by simp; omega), List.getElem?_set, if_neg (by omega), List.getElem?_take, if_pos h1]
  · by_cases h2 : j = i
    · subst h2
      rw [if_pos (by omega), List.getElem?_append_right (by simp; omega), List.getElem?_set, List.length_take, Nat.min_eq_left (by omega), Nat.sub_self]
      simp [hi]
    · rw [if_neg (by omega), List.getElem?_eq_none (by simp; omega)]
theorem cell_set_other {w : World} {p q : Addr} {u : Value} (h : w.cell? p = some u) (hne : p.block ≠ q.block) (v : Value) : (w.setCell q v).cell? p = some u := by
  rw [World.cell?_of_block (w := w) (Below.heap_setCell _ _ _ _ hne)]; exact h
theorem good_sz {ns : List Nd} {i : Nat} (h : ∀ j, j ≤ i → nodeB (ns.getD j Nd.zero) (j : Int) = true) : szv ns i = if 100000 < szSum ns (ns.getD i Nd.zero) then 100000 else szSum ns (ns.getD i Nd.zero) :=
  szv_good (h i (Nat.le_refl _)) (fun h0 => by have := szv_range ns (i - 1) (fun j hj => h j (by omega)); omega)

end Go.Proofs.Ytlmkkkpjcpopkaa

namespace Go.Proofs.Ytlmkkkpjcpopkaa
open Go.RowKit
set_option linter.unusedVariables false

set_option maxHeartbeats 800000 in
/-- slices.Index. -/
theorem index_any (a : Option Addr) (cap : Nat) (ns : List Nd) (x : Nd) (w : World) (hl : ns.length ≤ 1048576) (hr : RowN w.heap.size w a ns) :
    Calls Try.prog 168 #[.slice a ns.length cap, .agg #[.int .i64 x.k, .int .i64 x.n, .int .i64 x.a, .int .i64 x.b]] w fun e w' => e = .returned (.int .i64 (findN ns x)) ∧ Below w.heap.size w w' := by
  have HR : Hid (RowN w.heap.size w a ns) := hr
  clear hr
  have hgd := nodeGuard
  go_enter Try.func168, Try.ntmps168
  go_wp2
  go_loopw [8] (fun i wr => ∃ k : Nat, k ≤ ns.length ∧ i = .int .i64 (k : Int) ∧ Hid (findFrom x (ns.drop k) k = findN ns x) ∧ Below w.heap.size w wr ∧ Hid (wr.heap[w.heap.size]? = some (.cells #[.int .i64 x.k, .int .i64 x.n, .int .i64 x.a, .int .i64 x.b] 112 (0, 0))))
    (fun i _ => ns.length - (intOf i).toNat)
  case atStart => exact ⟨0, Nat.zero_le _, rfl, rfl, (Below.refl _ _).alloc (Nat.le_refl _) _, heap_alloc_new w _⟩
  case round =>
    obtain ⟨k, hk, rfl, HF, hbel, HO⟩ := hrel
    by_cases hlt : k < ns.length
    · obtain ⟨b, off, rfl⟩ := HR.out.addr hlt
      obtain ⟨hb, c0, c1, c2, c3⟩ := HR.out.at hbel hlt
      have d0 : wr.cell? ⟨w.heap.size, 0, none⟩ = some (.int .i64 x.k) := by rw [cell_of_row wr w.heap.size 0 _ _ _ HO.out]; rfl
      have d1 : wr.cell? ⟨w.heap.size, 1, none⟩ = some (.int .i64 x.n) := by rw [cell_of_row wr w.heap.size 1 _ _ _ HO.out]; rfl
      have d2 : wr.cell? ⟨w.heap.size, 2, none⟩ = some (.int .i64 x.a) := by rw [cell_of_row wr w.heap.size 2 _ _ _ HO.out]; rfl
      have d3 : wr.cell? ⟨w.heap.size, 3, none⟩ = some (.int .i64 x.b) := by rw [cell_of_row wr w.heap.size 3 _ _ _ HO.out]; rfl
      have HFD : Hid (_ = _) := find_drop ns x k hlt
      have hi0 : (0 : Int) ≤ (k : Int) := by omega
      have hi1 : (k : Int) < (ns.length : Int) := by omega
      generalize ns.getD k Nd.zero = y at c0 c1 c2 c3 HFD
      have hel := node_eql x y
      by_cases hyx : y = x
      · have hdy : decide (x = y) = true := by simp [hyx]
        have HV : Hid (findN ns x = (k : Int)) := by show _ = _; rw [← HF.out, HFD.out, if_pos hyx]
        clear hyx
        go_wp2
        go_quiet (fail)
        go_wp2
        go_ret
        exact ⟨by rw [HV.out]; rfl, below_dn hbel _⟩
      · have hdy : decide (x = y) = false := by simp [Ne.symm hyx]
        have HV : Hid (findFrom x (ns.drop (k + 1)) (k + 1) = findN ns x) := by show _ = _; rw [← HF.out, HFD.out, if_neg hyx]
        clear hyx
        go_wp2
        go_quiet (fail)
        go_wp2
        go_roundw
        case rel => exact ⟨k + 1, by omega, by go_num, HV, below_dn hbel _, HO.out⟩
        case measure => simp [intOf]; omega
    · obtain rfl : k = ns.length := by omega
      go_wp2
      go_ret
      exact ⟨by rw [← HF.out, find_end]; rfl, hbel⟩

set_option maxHeartbeats 1600000 in
/-- Where Put has a node stand. -/
theorem placeIn_any (a : Option Addr) (cap : Nat) (ns : List Nd) (x : Nd) (w : World) (hl : ns.length ≤ 1048576) (hr : RowN w.heap.size w a ns) :
    Calls Try.prog 160 #[.agg #[.slice a ns.length cap], .agg #[.int .i64 x.k, .int .i64 x.n, .int .i64 x.a, .int .i64 x.b]] w fun e w' => e = .returned (.int .i64 (putK ns x)) ∧ Below w.heap.size w w' := by
  have hb0 : Below w.heap.size w ((w.alloc (.cells #[.slice a ns.length cap] 26)).alloc (.cells #[.int .i64 x.k, .int .i64 x.n, .int .i64 x.a, .int .i64 x.b] 112)) := ((Below.refl _ _).alloc (Nat.le_refl _) _).alloc (by simp) _
  have hs0 : ((w.alloc (.cells #[.slice a ns.length cap] 26)).alloc (.cells #[.int .i64 x.k, .int .i64 x.n, .int .i64 x.a, .int .i64 x.b] 112)).heap.size = w.heap.size + 2 := by simp
  have hA0 : ((w.alloc (.cells #[.slice a ns.length cap] 26)).alloc (.cells #[.int .i64 x.k, .int .i64 x.n, .int .i64 x.a, .int .i64 x.b] 112)).heap[w.heap.size]? = some (.cells #[.slice a ns.length cap] 26 (0, 0)) := by
    rw [heap_alloc_old _ _ (by simp)]
    exact heap_alloc_new w _
  have hn0 : ((w.alloc (.cells #[.slice a ns.length cap] 26)).alloc (.cells #[.int .i64 x.k, .int .i64 x.n, .int .i64 x.a, .int .i64 x.b] 112)).heap[w.heap.size + 1]? = some (.cells #[.int .i64 x.k, .int .i64 x.n, .int .i64 x.a, .int .i64 x.b] 112 (0, 0)) := by
    have := heap_alloc_new (w.alloc (.cells #[.slice a ns.length cap] 26)) (.cells #[.int .i64 x.k, .int .i64 x.n, .int .i64 x.a, .int .i64 x.b] 112)
    simpa using this
  have HR0 : Hid (RowN ((w.alloc (.cells #[.slice a ns.length cap] 26)).alloc (.cells #[.int .i64 x.k, .int .i64 x.n, .int .i64 x.a, .int .i64 x.b] 112)).heap.size ((w.alloc (.cells #[.slice a ns.length cap] 26)).alloc (.cells #[.int .i64 x.k, .int .i64 x.n, .int .i64 x.a, .int .i64 x.b] 112)) a ns) := hr.grown hb0
  go_enter Try.func160, Try.ntmps160
  go_wp2_with fail
  generalize (w.alloc (.cells #[.slice a ns.length cap] 26)).alloc (.cells #[.int .i64 x.k, .int .i64 x.n, .int .i64 x.a, .int .i64 x.b] 112) = w0 at hb0 hs0 hA0 hn0 HR0 ⊢
  obtain ⟨S, hS0, hNE, HK⟩ := below_class (Below.refl w0.heap.size w0) (Nat.le_refl _)
  have cA : ∀ s : Hw S, s.w.cell? ⟨w.heap.size, 0, none⟩ = some (.slice a ns.length cap) := fun s => ((HK.out.2 _ s.ok).cell (p := ⟨w.heap.size, 0, none⟩) (show w.heap.size < w0.heap.size by omega)).trans ((cell_of_row w0 _ 0 _ _ _ hA0).trans rfl)
  have c0 : ∀ s : Hw S, s.w.cell? ⟨w.heap.size + 1, 0, none⟩ = some (.int .i64 x.k) := fun s => ((HK.out.2 _ s.ok).cell (p := ⟨w.heap.size + 1, 0, none⟩) (show w.heap.size + 1 < w0.heap.size by omega)).trans ((cell_of_row w0 _ 0 _ _ _ hn0).trans rfl)
  have c1 : ∀ s : Hw S, s.w.cell? ⟨w.heap.size + 1, 1, none⟩ = some (.int .i64 x.n) := fun s => ((HK.out.2 _ s.ok).cell (p := ⟨w.heap.size + 1, 1, none⟩) (show w.heap.size + 1 < w0.heap.size by omega)).trans ((cell_of_row w0 _ 1 _ _ _ hn0).trans rfl)
  have c2 : ∀ s : Hw S, s.w.cell? ⟨w.heap.size + 1, 2, none⟩ = some (.int .i64 x.a) := fun s => ((HK.out.2 _ s.ok).cell (p := ⟨w.heap.size + 1, 2, none⟩) (show w.heap.size + 1 < w0.heap.size by omega)).trans ((cell_of_row w0 _ 2 _ _ _ hn0).trans rfl)
  have c3 : ∀ s : Hw S, s.w.cell? ⟨w.heap.size + 1, 3, none⟩ = some (.int .i64 x.b) := fun s => ((HK.out.2 _ s.ok).cell (p := ⟨w.heap.size + 1, 3, none⟩) (show w.heap.size + 1 < w0.heap.size by omega)).trans ((cell_of_row w0 _ 3 _ _ _ hn0).trans rfl)
  have HI : Hid (∀ s : Hw S, Calls Try.prog 168 #[.slice a ns.length cap, .agg #[.int .i64 x.k, .int .i64 x.n, .int .i64 x.a, .int .i64 x.b]] s.w fun e w' => e = .returned (.int .i64 (findN ns x)) ∧ Below s.w.heap.size s.w w') := fun s => index_any _ _ ns x s.w hl (HR0.out.grown (HK.out.2 _ s.ok))
  have HPL : Hid (∀ s : Hw S, Calls Try.prog 166 #[.agg #[.int .i64 x.k, .int .i64 x.n, .int .i64 x.a, .int .i64 x.b], .int .i64 (ns.length : Int), .int .i64 (findN ns x), .int .i64 3000] s.w fun e w' => e = .returned (.int .i64 (putK ns x)) ∧ Below s.w.heap.size s.w w') := fun s => by
    have := placeFor_any x ns.length (findN ns x) ((3000 : Nat) : Int) s.w
    rw [placeB_put, putKm_is] at this
    exact this
  have HB0 : Hid (Below w.heap.size w w0) := hb0
  obtain ⟨kk, HKK⟩ : ∃ kk, Hid (putK ns x = kk) := ⟨_, rfl⟩
  rw [HKK.out] at HPL
  generalize findN ns x = fx at HI HPL
  clear hA0 hn0 HR0 hr hb0
  refine wp_region_held (S := S) (by kernel_rfl) (by kernel_rfl) hS0 ?_
  repeat (go_big_quiet_step (first | (go_at_call 168; exact Calls.held (HI.out _) (HK.out.1 _)) | (go_at_call 166; exact Calls.held (HPL.out _) (HK.out.1 _))))
  refine wpQuiet_nil ?_
  rintro _ ⟨sw, rfl⟩
  have HE : Hid (Below w.heap.size w sw.w) := HB0.out.trans ((HK.out.2 _ sw.ok).mono HB0.out.size)
  clear HK HI HPL cA c0 c1 c2 c3 hS0 hNE
  go_wp2
  go_ret
  exact ⟨by rw [HKK.out]; rfl, HE.out⟩

/-- A copy into room that was made for one more. -/
theorem made_copy (a : Option Addr) (cap : Nat) (ns : List Nd) (W : World) (hl : ns.length ≤ 1048576) (ha : AddrN a cap) (hr : RowN W.heap.size W a ns) :
    ∃ w2 w3, (Instr.makeSlice 24 (.int .i64 0) (.int .i64 ((ns.length : Int) + 1))).run Try.prog W = .ok (.slice (some ⟨W.heap.size, 0, none⟩) 0 (ns.length + 1)) w2 ∧
      (∀ ty, (Builtin.append_ #[24, 24] ty #[.slice (some ⟨W.heap.size, 0, none⟩) 0 (ns.length + 1), .slice a ns.length cap]).run Try.prog w2 = .ok (.slice (some ⟨W.heap.size, 0, none⟩) ns.length (ns.length + 1)) w3) ∧
      OwnN W.heap.size w3 (.slice (some ⟨W.heap.size, 0, none⟩) ns.length (ns.length + 1)) ns ∧ Below W.heap.size W w2 ∧ Below W.heap.size W w3 := by
  obtain ⟨i0, hi, hz0, hz1, hz2⟩ := info_parts infoNode
  obtain ⟨w2, h2, ho2, hg2⟩ := run_make_own (P := Try.prog) W W.heap.size 24 112 i0 _ 4 Try.underlying24 hi hz0 hz1 .i64 .i64 (ns.length + 1) (by rw [hz2]; omega) (by unfold maxLen; omega) (Nat.le_refl _)
  have hb2 : Below W.heap.size W w2 := (Below.refl _ _).grown hg2 (Nat.le_refl _) (by simp)
  rw [show ((ns.length + 1 : Nat) : Int) = (ns.length : Int) + 1 by omega] at h2
  rcases ha with ⟨rfl, rfl⟩ | ⟨b, off, rfl⟩
  · rcases hr with h0 | ⟨_, _, e, _⟩
    · subst h0
      exact ⟨w2, w2, h2, fun ty => run_append_owned_none (P := Try.prog) w2 W.heap.size _ ty 112 i0 4 Try.underlying24 hi _ 0 [] ho2, ho2, hb2, hb2⟩
    · cases e
  · have hf := fun ty => run_append_fits (P := Try.prog) w2 W.heap.size 24 ty 112 i0 4 Try.underlying24 hi hz1 W.heap.size 0 (ns.length + 1) [] ho2 ⟨b, off, none⟩ ns.length cap (cellsN ns) (cellsN_len ns) (hr.later hb2).cells (cells_one ns) (by omega)
    obtain ⟨w3, h3, ho3, hg3⟩ := hf 0
    refine ⟨w2, w3, h2, fun ty => ?_, ?_, hb2, hb2.grown hg3 hb2.size (fun k hk => by cases hk; exact Nat.le_refl _)⟩
    · have := h3
      rw [Nat.zero_add] at this
      exact this
    · unfold OwnN
      simpa using ho3

/-- An append whose run is known, inside a region that draws. -/
theorem step_append_run {P : Program} {ops : Array Oper} {o : Oper} {a : Act} {w w' : World} {v : Value} {K : Act → World → Prop} {Q : Exit → Act → World → Prop} {E : Prop} (hgd : o.guard = none) (s x : Operand) (t u : TypeId)
    (ho : o.op = .call { callee := .builtin .append, args := #[s, x], argTypes := #[t, u] }) (hrun : (Builtin.append_ #[t, u] o.type #[a.eval s, a.eval x]).run P w = .ok v w') (h : K (a.put o.dst v) w') :
    if Region.wanted o (yielded ops a.tmps) = true then Oper.wp P o a w K Q else E := by
  have hw : Region.wanted o (yielded ops a.tmps) = true := by simp [Region.wanted, hgd]
  rw [if_pos hw]
  unfold Oper.wp
  simp [execOp, ho, resolve, invoke, builtin, hrun, Result.andThen]
  exact h
end Go.Proofs.Ytlmkkkpjcpopkaa

namespace Go.Proofs.Ytlmkkkpjcpopkaa
open Go.RowKit
set_option linter.unusedVariables false

theorem putK_new {ns : List Nd} {x : Nd} : putK ns x = (ns.length : Int) ↔ (nodeB x ns.length = true ∧ findN ns x = -1 ∧ ns.length < 3000) := by
  unfold putK
  have hr := findN_range ns x
  split
  · rename_i h
    split
    · rename_i h2; exact ⟨fun _ => ⟨h, h2⟩, fun _ => rfl⟩
    · rename_i h2; constructor
      · intro e; omega
      · intro e; exact absurd e.2 h2
  · rename_i h; constructor
    · intro e; omega
    · intro e; exact absurd e.1 h
theorem putA_new {ns : List Nd} {x : Nd} (h : putK ns x = (ns.length : Int)) : putA ns x = ns ++ [x] := by
  unfold putA; rw [if_pos (putK_new.1 h)]
theorem putA_old {ns : List Nd} {x : Nd} (h : putK ns x ≠ (ns.length : Int)) : putA ns x = ns := by
  unfold putA; rw [if_neg (fun e => h (putK_new.2 e))]

end Go.Proofs.Ytlmkkkpjcpopkaa
