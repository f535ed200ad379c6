/- The contracts of chapter 3's Put, the program's, and of the library's Index and Clone over nodes. -/
import Derived.Test.YtlmkkkpjcpopkaaImplOk
import Derived.Test.YtlmkkkpjcpopkaaLawArena2
import Derived.Test.YtlmkkkpjcpopkaaPlainPlaces
import Derived.WalkKit
import Derived.WalkLawsBesides
import Derived.WalkSpells
import Derived.Laws.OwnMore
import Derived.Laws.MakeOwn
import Derived.Laws.AppendOwnNone
import Derived.Laws.Rows
import Derived.Laws.ResultCell
import Derived.Deep.QuietTactic
import Derived.BigQuiet
import Derived.Deep.RegionLaw
import Derived.OwnWalk
import Derived.BigRegion
import Derived.OneCell
import Derived.Deep.AppendLies
import Derived.Test.YtlmkkkpjcpopkaaTermPut2
namespace Go.Proofs.Ytlmkkkpjcpopkaa
open Go.RowKit
set_option linter.unusedVariables false

set_option maxHeartbeats 800000 in
/-- slices.Index. -/
theorem index_any (a : Option Addr) (cap : Nat) (ns : List Nd) (x : Nd) (w : World) (hl : ns.length ≤ 1048576) (hr : RowN w.heap.size w a ns) :
    Calls Try.prog 168 #[.slice a ns.length cap, .agg #[.int .i64 x.k, .int .i64 x.n, .int .i64 x.a, .int .i64 x.b]] w fun e w' => e = .returned (.int .i64 (findN ns x)) ∧ Below w.heap.size w w' := by
  have HR : Hid (RowN w.heap.size w a ns) := hr
  clear hr
  have hgd := nodeGuard
  go_enter Try.func168, Try.ntmps168
  go_wp2
  go_loopw [8] (fun i wr => ∃ k : Nat, k ≤ ns.length ∧ i = .int .i64 (k : Int) ∧ Hid (findFrom x (ns.drop k) k = findN ns x) ∧ Below w.heap.size w wr ∧ Hid (wr.heap[w.heap.size]? = some (.cells #[.int .i64 x.k, .int .i64 x.n, .int .i64 x.a, .int .i64 x.b] 112 (0, 0))))
    (fun i _ => ns.length - (intOf i).toNat)
  case atStart => exact ⟨0, Nat.zero_le _, rfl, rfl, (Below.refl _ _).alloc (Nat.le_refl _) _, heap_alloc_new w _⟩
  case round =>
    obtain ⟨k, hk, rfl, HF, hbel, HO⟩ := hrel
    by_cases hlt : k < ns.length
    · obtain ⟨b, off, rfl⟩ := HR.out.addr hlt
      obtain ⟨hb, c0, c1, c2, c3⟩ := HR.out.at hbel hlt
      have d0 : wr.cell? ⟨w.heap.size, 0, none⟩ = some (.int .i64 x.k) := by rw [cell_of_row wr w.heap.size 0 _ _ _ HO.out]; rfl
      have d1 : wr.cell? ⟨w.heap.size, 1, none⟩ = some (.int .i64 x.n) := by rw [cell_of_row wr w.heap.size 1 _ _ _ HO.out]; rfl
      have d2 : wr.cell? ⟨w.heap.size, 2, none⟩ = some (.int .i64 x.a) := by rw [cell_of_row wr w.heap.size 2 _ _ _ HO.out]; rfl
      have d3 : wr.cell? ⟨w.heap.size, 3, none⟩ = some (.int .i64 x.b) := by rw [cell_of_row wr w.heap.size 3 _ _ _ HO.out]; rfl
      have HFD : Hid (_ = _) := find_drop ns x k hlt
      have hi0 : (0 : Int) ≤ (k : Int) := by omega
      have hi1 : (k : Int) < (ns.length : Int) := by omega
      generalize ns.getD k Nd.zero = y at c0 c1 c2 c3 HFD
      have hel := node_eql x y
      by_cases hyx : y = x
      · have hdy : decide (x = y) = true := by simp [hyx]
        have HV : Hid (findN ns x = (k : Int)) := by show _ = _; rw [← HF.out, HFD.out, if_pos hyx]
        clear hyx
        go_wp2
        go_quiet (fail)
        go_wp2
        go_ret
        exact ⟨by rw [HV.out]; rfl, below_dn hbel _⟩
      · have hdy : decide (x = y) = false := by simp [Ne.symm hyx]
        have HV : Hid (findFrom x (ns.drop (k + 1)) (k + 1) = findN ns x) := by show _ = _; rw [← HF.out, HFD.out, if_neg hyx]
        clear hyx
        go_wp2
        go_quiet (fail)
        go_wp2
        go_roundw
        case rel => exact ⟨k + 1, by omega, by go_num, HV, below_dn hbel _, HO.out⟩
        case measure => simp [intOf]; omega
    · obtain rfl : k = ns.length := by omega
      go_wp2
      go_ret
      exact ⟨by rw [← HF.out, find_end]; rfl, hbel⟩

set_option maxHeartbeats 1600000 in
/-- Where Put has a node stand. -/
theorem placeIn_any (a : Option Addr) (cap : Nat) (ns : List Nd) (x : Nd) (w : World) (hl : ns.length ≤ 1048576) (hr : RowN w.heap.size w a ns) :
    Calls Try.prog 160 #[.agg #[.slice a ns.length cap], .agg #[.int .i64 x.k, .int .i64 x.n, .int .i64 x.a, .int .i64 x.b]] w fun e w' => e = .returned (.int .i64 (putK ns x)) ∧ Below w.heap.size w w' := by
  have hb0 : Below w.heap.size w ((w.alloc (.cells #[.slice a ns.length cap] 26)).alloc (.cells #[.int .i64 x.k, .int .i64 x.n, .int .i64 x.a, .int .i64 x.b] 112)) := ((Below.refl _ _).alloc (Nat.le_refl _) _).alloc (by simp) _
  have hs0 : ((w.alloc (.cells #[.slice a ns.length cap] 26)).alloc (.cells #[.int .i64 x.k, .int .i64 x.n, .int .i64 x.a, .int .i64 x.b] 112)).heap.size = w.heap.size + 2 := by simp
  have hA0 : ((w.alloc (.cells #[.slice a ns.length cap] 26)).alloc (.cells #[.int .i64 x.k, .int .i64 x.n, .int .i64 x.a, .int .i64 x.b] 112)).heap[w.heap.size]? = some (.cells #[.slice a ns.length cap] 26 (0, 0)) := by
    rw [heap_alloc_old _ _ (by simp)]
    exact heap_alloc_new w _
  have hn0 : ((w.alloc (.cells #[.slice a ns.length cap] 26)).alloc (.cells #[.int .i64 x.k, .int .i64 x.n, .int .i64 x.a, .int .i64 x.b] 112)).heap[w.heap.size + 1]? = some (.cells #[.int .i64 x.k, .int .i64 x.n, .int .i64 x.a, .int .i64 x.b] 112 (0, 0)) := by
    have := heap_alloc_new (w.alloc (.cells #[.slice a ns.length cap] 26)) (.cells #[.int .i64 x.k, .int .i64 x.n, .int .i64 x.a, .int .i64 x.b] 112)
    simpa using this
  have HR0 : Hid (RowN ((w.alloc (.cells #[.slice a ns.length cap] 26)).alloc (.cells #[.int .i64 x.k, .int .i64 x.n, .int .i64 x.a, .int .i64 x.b] 112)).heap.size ((w.alloc (.cells #[.slice a ns.length cap] 26)).alloc (.cells #[.int .i64 x.k, .int .i64 x.n, .int .i64 x.a, .int .i64 x.b] 112)) a ns) := hr.grown hb0
  go_enter Try.func160, Try.ntmps160
  go_wp2_with fail
  generalize (w.alloc (.cells #[.slice a ns.length cap] 26)).alloc (.cells #[.int .i64 x.k, .int .i64 x.n, .int .i64 x.a, .int .i64 x.b] 112) = w0 at hb0 hs0 hA0 hn0 HR0 ⊢
  obtain ⟨S, hS0, hNE, HK⟩ := below_class (Below.refl w0.heap.size w0) (Nat.le_refl _)
  have cA : ∀ s : Hw S, s.w.cell? ⟨w.heap.size, 0, none⟩ = some (.slice a ns.length cap) := fun s => ((HK.out.2 _ s.ok).cell (p := ⟨w.heap.size, 0, none⟩) (show w.heap.size < w0.heap.size by omega)).trans ((cell_of_row w0 _ 0 _ _ _ hA0).trans rfl)
  have c0 : ∀ s : Hw S, s.w.cell? ⟨w.heap.size + 1, 0, none⟩ = some (.int .i64 x.k) := fun s => ((HK.out.2 _ s.ok).cell (p := ⟨w.heap.size + 1, 0, none⟩) (show w.heap.size + 1 < w0.heap.size by omega)).trans ((cell_of_row w0 _ 0 _ _ _ hn0).trans rfl)
  have c1 : ∀ s : Hw S, s.w.cell? ⟨w.heap.size + 1, 1, none⟩ = some (.int .i64 x.n) := fun s => ((HK.out.2 _ s.ok).cell (p := ⟨w.heap.size + 1, 1, none⟩) (show w.heap.size + 1 < w0.heap.size by omega)).trans ((cell_of_row w0 _ 1 _ _ _ hn0).trans rfl)
  have c2 : ∀ s : Hw S, s.w.cell? ⟨w.heap.size + 1, 2, none⟩ = some (.int .i64 x.a) := fun s => ((HK.out.2 _ s.ok).cell (p := ⟨w.heap.size + 1, 2, none⟩) (show w.heap.size + 1 < w0.heap.size by omega)).trans ((cell_of_row w0 _ 2 _ _ _ hn0).trans rfl)
  have c3 : ∀ s : Hw S, s.w.cell? ⟨w.heap.size + 1, 3, none⟩ = some (.int .i64 x.b) := fun s => ((HK.out.2 _ s.ok).cell (p := ⟨w.heap.size + 1, 3, none⟩) (show w.heap.size + 1 < w0.heap.size by omega)).trans ((cell_of_row w0 _ 3 _ _ _ hn0).trans rfl)
  have HI : Hid (∀ s : Hw S, Calls Try.prog 168 #[.slice a ns.length cap, .agg #[.int .i64 x.k, .int .i64 x.n, .int .i64 x.a, .int .i64 x.b]] s.w fun e w' => e = .returned (.int .i64 (findN ns x)) ∧ Below s.w.heap.size s.w w') := fun s => index_any _ _ ns x s.w hl (HR0.out.grown (HK.out.2 _ s.ok))
  have HPL : Hid (∀ s : Hw S, Calls Try.prog 166 #[.agg #[.int .i64 x.k, .int .i64 x.n, .int .i64 x.a, .int .i64 x.b], .int .i64 (ns.length : Int), .int .i64 (findN ns x), .int .i64 3000] s.w fun e w' => e = .returned (.int .i64 (putK ns x)) ∧ Below s.w.heap.size s.w w') := fun s => by
    have := placeFor_any x ns.length (findN ns x) ((3000 : Nat) : Int) s.w
    rw [placeB_put, putKm_is] at this
    exact this
  have HB0 : Hid (Below w.heap.size w w0) := hb0
  obtain ⟨kk, HKK⟩ : ∃ kk, Hid (putK ns x = kk) := ⟨_, rfl⟩
  rw [HKK.out] at HPL
  generalize findN ns x = fx at HI HPL
  clear hA0 hn0 HR0 hr hb0
  refine wp_region_held (S := S) (by kernel_rfl) (by kernel_rfl) hS0 ?_
  repeat (go_big_quiet_step (first | (go_at_call 168; exact Calls.held (HI.out _) (HK.out.1 _)) | (go_at_call 166; exact Calls.held (HPL.out _) (HK.out.1 _))))
  refine wpQuiet_nil ?_
  rintro _ ⟨sw, rfl⟩
  have HE : Hid (Below w.heap.size w sw.w) := HB0.out.trans ((HK.out.2 _ sw.ok).mono HB0.out.size)
  clear HK HI HPL cA c0 c1 c2 c3 hS0 hNE
  go_wp2
  go_ret
  exact ⟨by rw [HKK.out]; rfl, HE.out⟩

/-- A copy into room that was made for one more. -/
theorem made_copy (a : Option Addr) (cap : Nat) (ns : List Nd) (W : World) (hl : ns.length ≤ 1048576) (ha : AddrN a cap) (hr : RowN W.heap.size W a ns) :
    ∃ w2 w3, (Instr.makeSlice 24 (.int .i64 0) (.int .i64 ((ns.length : Int) + 1))).run Try.prog W = .ok (.slice (some ⟨W.heap.size, 0, none⟩) 0 (ns.length + 1)) w2 ∧
      (∀ ty, (Builtin.append_ #[24, 24] ty #[.slice (some ⟨W.heap.size, 0, none⟩) 0 (ns.length + 1), .slice a ns.length cap]).run Try.prog w2 = .ok (.slice (some ⟨W.heap.size, 0, none⟩) ns.length (ns.length + 1)) w3) ∧
      OwnN W.heap.size w3 (.slice (some ⟨W.heap.size, 0, none⟩) ns.length (ns.length + 1)) ns ∧ Below W.heap.size W w2 ∧ Below W.heap.size W w3 := by
  obtain ⟨i0, hi, hz0, hz1, hz2⟩ := info_parts infoNode
  obtain ⟨w2, h2, ho2, hg2⟩ := run_make_own (P := Try.prog) W W.heap.size 24 112 i0 _ 4 Try.underlying24 hi hz0 hz1 .i64 .i64 (ns.length + 1) (by rw [hz2]; omega) (by unfold maxLen; omega) (Nat.le_refl _)
  have hb2 : Below W.heap.size W w2 := (Below.refl _ _).grown hg2 (Nat.le_refl _) (by simp)
  rw [show ((ns.length + 1 : Nat) : Int) = (ns.length : Int) + 1 by omega] at h2
  rcases ha with ⟨rfl, rfl⟩ | ⟨b, off, rfl⟩
  · rcases hr with h0 | ⟨_, _, e, _⟩
    · subst h0
      exact ⟨w2, w2, h2, fun ty => run_append_owned_none (P := Try.prog) w2 W.heap.size _ ty 112 i0 4 Try.underlying24 hi _ 0 [] ho2, ho2, hb2, hb2⟩
    · cases e
  · have hf := fun ty => run_append_fits (P := Try.prog) w2 W.heap.size 24 ty 112 i0 4 Try.underlying24 hi hz1 W.heap.size 0 (ns.length + 1) [] ho2 ⟨b, off, none⟩ ns.length cap (cellsN ns) (cellsN_len ns) (hr.later hb2).cells (cells_one ns) (by omega)
    obtain ⟨w3, h3, ho3, hg3⟩ := hf 0
    refine ⟨w2, w3, h2, fun ty => ?_, ?_, hb2, hb2.grown hg3 hb2.size (fun k hk => by cases hk; exact Nat.le_refl _)⟩
    · have := h3
      rw [Nat.zero_add] at this
      exact this
    · unfold OwnN
      simpa using ho3

/-- An append whose run is known, inside a region that draws. -/
theorem step_append_run {P : Program} {ops : Array Oper} {o : Oper} {a : Act} {w w' : World} {v : Value} {K : Act → World → Prop} {Q : Exit → Act → World → Prop} {E : Prop} (hgd : o.guard = none) (s x : Operand) (t u : TypeId)
    (ho : o.op = .call { callee := .builtin .append, args := #[s, x], argTypes := #[t, u] }) (hrun : (Builtin.append_ #[t, u] o.type #[a.eval s, a.eval x]).run P w = .ok v w') (h : K (a.put o.dst v) w') :
    if Region.wanted o (yielded ops a.tmps) = true then Oper.wp P o a w K Q else E := by
  have hw : Region.wanted o (yielded ops a.tmps) = true := by simp [Region.wanted, hgd]
  rw [if_pos hw]
  unfold Oper.wp
  simp [execOp, ho, resolve, invoke, builtin, hrun, Result.andThen]
  exact h
end Go.Proofs.Ytlmkkkpjcpopkaa

namespace Go.Proofs.Ytlmkkkpjcpopkaa
open Go.RowKit
set_option linter.unusedVariables false

theorem putK_new {ns : List Nd} {x : Nd} : putK ns x = (ns.length : Int) ↔ (nodeB x ns.length = true ∧ findN ns x = -1 ∧ ns.length < 3000) := by
  unfold putK
  have hr := findN_range ns x
  split
  · rename_i h
    split
    · rename_i h2; exact ⟨fun _ => ⟨h, h2⟩, fun _ => rfl⟩
    · rename_i h2; constructor
      · intro e; omega
      · intro e; exact absurd e.2 h2
  · rename_i h; constructor
    · intro e; omega
    · intro e; exact absurd e.1 h
theorem putA_new {ns : List Nd} {x : Nd} (h : putK ns x = (ns.length : Int)) : putA ns x = ns ++ [x] := by
  unfold putA; rw [if_pos (putK_new.1 h)]
theorem putA_old {ns : List Nd} {x : Nd} (h : putK ns x ≠ (ns.length : Int)) : putA ns x = ns := by
  unfold putA; rw [if_neg (fun e => h (putK_new.2 e))]

end Go.Proofs.Ytlmkkkpjcpopkaa

namespace Go.Proofs.Ytlmkkkpjcpopkaa
open Go.RowKit
set_option linter.unusedVariables false

theorem putK_neg {ns : List Nd} {x : Nd} (h : putK ns x < 0) : putK ns x = -1 := by
  unfold putK at h ⊢
  split at h
  · split at h
    · omega
    · rename_i h1 h2; rw [if_pos h1, if_neg h2]; have := findN_range ns x; omega
  · rename_i h1; rw [if_neg h1]
theorem putA_neg {ns : List Nd} {x : Nd} (h : putK ns x < 0) : putA ns x = ns := putA_old (by omega)
/-- The node of a kind. -/
def mkNd (kind x y : Int) : Nd := ⟨kind, 0, x, if oneK kind = true then 0 else y⟩
def makeA (ns : List Nd) (kind x y : Int) : List Nd := if kind = 1 ∨ kind = 7 then ns else putA ns (mkNd kind x y)
def makeK (ns : List Nd) (kind x y : Int) : Int := if kind = 1 ∨ kind = 7 then -1 else putK ns (mkNd kind x y)
theorem makeK_neg {ns : List Nd} {kind x y : Int} (h : makeK ns kind x y < 0) : makeK ns kind x y = -1 := by
  unfold makeK at h ⊢
  split
  · rfl
  · rename_i h1; rw [if_neg h1] at h; exact putK_neg h
theorem makeA_neg {ns : List Nd} {kind x y : Int} (h : makeK ns kind x y < 0) : makeA ns kind x y = ns := by
  unfold makeK at h
  unfold makeA
  split
  · rfl
  · rename_i h1; rw [if_neg h1] at h; exact putA_neg h
theorem mkNd_bad {kind x y : Int} {e : Int} (h1 : kind ≠ 1) (h : x < 0 ∨ (oneK kind = false ∧ y < 0)) : nodeB (mkNd kind x y) e = false := by
  unfold nodeB mkNd
  simp only
  rw [if_neg h1]
  split
  · rfl
  · rcases h with h | ⟨ho, h⟩
    · rw [if_pos (.inr (by unfold inB; simp; omega))]
    · split
      · rfl
      · rw [ho]
        simp only [Bool.false_eq_true, if_false]
        unfold inB; simp; omega
theorem make_bad {ns : List Nd} {kind x y : Int} (h : kind = 1 ∨ kind = 7 ∨ x < 0 ∨ (oneK kind = false ∧ y < 0)) : makeK ns kind x y = -1 ∧ makeA ns kind x y = ns := by
  unfold makeK makeA
  by_cases h1 : kind = 1 ∨ kind = 7
  · rw [if_pos h1, if_pos h1]; exact ⟨rfl, rfl⟩
  · rw [if_neg h1, if_neg h1]
    have hb : nodeB (mkNd kind x y) ns.length = false := mkNd_bad (fun e => h1 (.inl e)) (by
      rcases h with h | h | h | h
      · exact absurd (.inl h) h1
      · exact absurd (.inr h) h1
      · exact .inl h
      · exact .inr h)
    have hk : putK ns (mkNd kind x y) = -1 := by unfold putK; rw [if_neg (by simp [hb])]
    exact ⟨hk, putA_neg (by omega)⟩
theorem make_good {ns : List Nd} {kind x y : Int} (h : kind ≠ 1 ∧ kind ≠ 7) : makeK ns kind x y = putK ns (mkNd kind x y) ∧ makeA ns kind x y = putA ns (mkNd kind x y) := by
  unfold makeK makeA
  rw [if_neg (by omega), if_neg (by omega)]
  exact ⟨rfl, rfl⟩

theorem specAtomP_any (B g : Nat) (ns : List Nd) (n : Int) (w : World) (hl : ns.length ≤ 1048576) (h : ArenaAt B w g ns) (hB : B ≤ w.heap.size) :
    Calls Try.prog 106 #[.pointer (some ⟨g, 0, none⟩), .int .i64 n] w fun e w' => e = .returned (.int .i64 (putK ns ⟨1, n, 0, 0⟩)) ∧ ArenaAt B w' g (putA ns ⟨1, n, 0, 0⟩) ∧ Below B w w' := by
  have H : Hid _ := specPutP_any B g ns ⟨1, n, 0, 0⟩ w hl h hB
  clear h
  go_enter Try.func106, Try.ntmps106
  go_wp2_with fail
  refine Calls.mono H.out ?_
  rintro e w1 ⟨rfl, ha, hb⟩
  have HE : Hid _ := And.intro ha hb
  clear ha hb H
  go_wp2
  go_ret
  exact ⟨rfl, HE.out.1, HE.out.2⟩

theorem specMakeP_any (B g : Nat) (ns : List Nd) (kind x y : Int) (w : World) (hl : ns.length ≤ 1048576) (h : ArenaAt B w g ns) (hB : B ≤ w.heap.size) :
    Calls Try.prog 102 #[.pointer (some ⟨g, 0, none⟩), .int .i64 kind, .int .i64 x, .int .i64 y] w fun e w' => e = .returned (.int .i64 (makeK ns kind x y)) ∧ ArenaAt B w' g (makeA ns kind x y) ∧ Below B w w' := by
  have HH : Hid (ArenaAt B w g ns) := h
  clear h
  cases ho : oneK kind with
  | true =>
    have HO : Hid (oneK kind = true) := ho
    by_cases hbad : kind = 1 ∨ kind = 7 ∨ x < 0
    · obtain ⟨e1, e2⟩ := make_bad (ns := ns) (kind := kind) (x := x) (y := y) (by rcases hbad with h | h | h <;> simp [h])
      rw [e1, e2]
      clear ho e1 e2
      have hk1 : (kind == 1) = false := by have := HO.out; unfold oneK at this; simp at this; simp; omega
      have hk7 : (kind == 7) = false := by have := HO.out; unfold oneK at this; simp at this; simp; omega
      have hx : x < 0 := by simp at hk1 hk7; omega
      clear hbad
      go_enter Try.func102, Try.ntmps102
      go_wp2_with fail
      refine (specOne_any kind _).mono ?_
      rintro e w1 ⟨rfl, rfl⟩
      rw [HO.out]
      go_wp2
      go_ret
      exact ⟨rfl, HH.out, Below.refl _ _⟩
    · have hg : kind ≠ 1 ∧ kind ≠ 7 ∧ ¬ x < 0 := by omega
      obtain ⟨e1, e2⟩ := make_good (ns := ns) (x := x) (y := y) ⟨hg.1, hg.2.1⟩
      rw [e1, e2]
      have em : mkNd kind x y = ⟨kind, 0, x, 0⟩ := by unfold mkNd; rw [if_pos ho]
      rw [em]
      have hk1 : (kind == 1) = false := by simp; omega
      have hk7 : (kind == 7) = false := by simp; omega
      have hx := hg.2.2
      have H : Hid _ := specPutP_any B g ns ⟨kind, 0, x, 0⟩ w hl HH.out hB
      clear ho e1 e2 em hbad hg
      go_enter Try.func102, Try.ntmps102
      go_wp2_with fail
      refine (specOne_any kind _).mono ?_
      rintro e w1 ⟨rfl, rfl⟩
      rw [HO.out]
      go_wp2_with fail
      refine Calls.mono H.out ?_
      rintro e w1 ⟨rfl, ha, hb⟩
      have HE : Hid _ := And.intro ha hb
      clear ha hb H
      go_wp2
      go_ret
      exact ⟨rfl, HE.out.1, HE.out.2⟩
  | false =>
    have HO : Hid (oneK kind = false) := ho
    have em : mkNd kind x y = ⟨kind, 0, x, y⟩ := by unfold mkNd; rw [if_neg (by simp [ho])]
    by_cases h1 : kind = 1
    · obtain ⟨e1, e2⟩ := make_bad (ns := ns) (kind := kind) (x := x) (y := y) (.inl h1)
      rw [e1, e2]
      have hk1 : (kind == 1) = true := by simp [h1]
      clear ho em e1 e2 h1
      go_enter Try.func102, Try.ntmps102
      go_wp2_with fail
      refine (specOne_any kind _).mono ?_
      rintro e w1 ⟨rfl, rfl⟩
      rw [HO.out]
      go_wp2
      go_ret
      exact ⟨rfl, HH.out, Below.refl _ _⟩
    by_cases h7 : kind = 7
    · obtain ⟨e1, e2⟩ := make_bad (ns := ns) (kind := kind) (x := x) (y := y) (.inr (.inl h7))
      rw [e1, e2]
      have hk1 : (kind == 1) = false := by simp [h1]
      have hk7 : (kind == 7) = true := by simp [h7]
      clear ho em e1 e2 h1 h7
      go_enter Try.func102, Try.ntmps102
      go_wp2_with fail
      refine (specOne_any kind _).mono ?_
      rintro e w1 ⟨rfl, rfl⟩
      rw [HO.out]
      go_wp2
      go_ret
      exact ⟨rfl, HH.out, Below.refl _ _⟩
    have hk1 : (kind == 1) = false := by simp [h1]
    have hk7 : (kind == 7) = false := by simp [h7]
    by_cases hx : x < 0
    · obtain ⟨e1, e2⟩ := make_bad (ns := ns) (kind := kind) (x := x) (y := y) (.inr (.inr (.inl hx)))
      rw [e1, e2]
      clear ho em e1 e2 h1 h7
      go_enter Try.func102, Try.ntmps102
      go_wp2_with fail
      refine (specOne_any kind _).mono ?_
      rintro e w1 ⟨rfl, rfl⟩
      rw [HO.out]
      go_wp2
      go_ret
      exact ⟨rfl, HH.out, Below.refl _ _⟩
    by_cases hy : y < 0
    · obtain ⟨e1, e2⟩ := make_bad (ns := ns) (kind := kind) (x := x) (y := y) (.inr (.inr (.inr ⟨ho, hy⟩)))
      rw [e1, e2]
      clear ho em e1 e2 h1 h7
      go_enter Try.func102, Try.ntmps102
      go_wp2_with fail
      refine (specOne_any kind _).mono ?_
      rintro e w1 ⟨rfl, rfl⟩
      rw [HO.out]
      go_wp2
      go_ret
      exact ⟨rfl, HH.out, Below.refl _ _⟩
    obtain ⟨e1, e2⟩ := make_good (ns := ns) (x := x) (y := y) ⟨h1, h7⟩
    rw [e1, e2, em]
    have H : Hid _ := specPutP_any B g ns ⟨kind, 0, x, y⟩ w hl HH.out hB
    clear ho em e1 e2 h1 h7
    go_enter Try.func102, Try.ntmps102
    go_wp2_with fail
    refine (specOne_any kind _).mono ?_
    rintro e w1 ⟨rfl, rfl⟩
    rw [HO.out]
    go_wp2_with fail
    refine Calls.mono H.out ?_
    rintro e w1 ⟨rfl, ha, hb⟩
    have HE : Hid _ := And.intro ha hb
    clear ha hb H
    go_wp2
    go_ret
    exact ⟨rfl, HE.out.1, HE.out.2⟩

set_option maxHeartbeats 800000 in
/-- spec.Make, the specification's. -/
theorem specMake_any (a : Option Addr) (cap : Nat) (ns : List Nd) (kind x y : Int) (w : World) (hl : ns.length ≤ 1048576) (ha : AddrN a cap) (hr : RowN w.heap.size w a ns) :
    Calls Try.prog 53 #[.agg #[.slice a ns.length cap], .int .i64 kind, .int .i64 x, .int .i64 y] w fun e w' => ∃ v, e = .returned (.tuple #[.agg #[v], .int .i64 (makeK ns kind x y)]) ∧ OwnN w.heap.size w' v (makeA ns kind x y) ∧ Below w.heap.size w w' := by
  obtain ⟨A, K, R, HP, HN1, HN2, HN3, hEA, hEK⟩ : ∃ (A : List Nd) (K : Int) (R : List Nd), Hid (∀ (B g : Nat) (wz : World), w.heap.size ≤ B → Below w.heap.size w wz → ArenaAt B wz g ns → B ≤ wz.heap.size → Calls Try.prog 102 #[.pointer (some ⟨g, 0, none⟩), .int .i64 kind, .int .i64 x, .int .i64 y] wz fun e w' => e = .returned (.int .i64 K) ∧ ArenaAt B w' g A ∧ Below B wz w') ∧ Hid (K < 0 → K = -1) ∧ Hid (K < 0 → R = ns) ∧ Hid (¬ K < 0 → R = A) ∧ R = makeA ns kind x y ∧ K = makeK ns kind x y :=
    ⟨makeA ns kind x y, makeK ns kind x y, makeA ns kind x y, fun B g wz hwB hwz h hB => specMakeP_any B g ns kind x y wz hl h hB, makeK_neg, makeA_neg, fun _ => rfl, rfl, rfl⟩
  rw [← hEA, ← hEK]
  clear hEA hEK
  have hb0 : Below w.heap.size w ((w.alloc (.cells #[.slice a ns.length cap] 26)).alloc (.cells #[.slice none 0 0] 26)) := ((Below.refl _ _).alloc (Nat.le_refl _) _).alloc (by simp) _
  have hs0 : ((w.alloc (.cells #[.slice a ns.length cap] 26)).alloc (.cells #[.slice none 0 0] 26)).heap.size = w.heap.size + 2 := by simp
  have hA0 : ((w.alloc (.cells #[.slice a ns.length cap] 26)).alloc (.cells #[.slice none 0 0] 26)).heap[w.heap.size]? = some (.cells #[.slice a ns.length cap] 26 (0, 0)) := (heap_alloc_old _ _ (by simp)).trans (heap_alloc_new w _)
  have hr0 : ((w.alloc (.cells #[.slice a ns.length cap] 26)).alloc (.cells #[.slice none 0 0] 26)).heap[w.heap.size + 1]? = some (.cells #[.slice none 0 0] 26 (0, 0)) := by
    have := heap_alloc_new (w.alloc (.cells #[.slice a ns.length cap] 26)) (.cells #[.slice none 0 0] 26)
    simpa using this
  have HR : Hid (RowN w.heap.size w a ns) := hr
  have HA : Hid (AddrN a cap) := ha
  clear hr ha
  go_enter Try.func53, Try.ntmps53
  go_wp2_with fail
  generalize (w.alloc (.cells #[.slice a ns.length cap] 26)).alloc (.cells #[.slice none 0 0] 26) = w0 at hb0 hs0 hA0 hr0 ⊢
  refine (specCopy_any a cap ns w0 hl HA.out (HR.out.grown hb0)).mono ?_
  rintro e w1 ⟨v, rfl, hown, hb1⟩
  obtain ⟨a1, cap1, rfl, ha1, hr1⟩ := hown.row
  have hA1 := (hb1.block w.heap.size (by omega)).trans hA0
  have hr1' := (hb1.block (w.heap.size + 1) (by omega)).trans hr0
  have hs1 := hb1.size
  have hbA : Below w1.heap.size w1 (w1.alloc (.cells #[.slice a1 ns.length cap1] 26)) := (Below.refl _ _).alloc (Nat.le_refl _) _
  have hAt : ArenaAt w0.heap.size (w1.alloc (.cells #[.slice a1 ns.length cap1] 26)) w1.heap.size ns := ⟨hs1, by simp, _, heap_alloc_new w1 _, hown.later hbA, fun h => by have := (hown.lt _ h).2; omega⟩
  have HB1 : Hid (Below w.heap.size w w1) := hb0.trans (hb1.mono (by omega))
  have HA1 : Hid (w1.heap[w.heap.size]? = some (.cells #[.slice a ns.length cap] 26 (0, 0))) := hA1
  have HR1 : Hid (w1.heap[w.heap.size + 1]? = some (.cells #[.slice none 0 0] 26 (0, 0))) := hr1'
  have HAt : Hid _ := hAt
  clear hAt hown hA1 hr1' hb0 hb1 hA0 hr0 ha1 hr1
  go_wp2_with fail
  refine Calls.mono (HP.out _ _ _ (show w.heap.size ≤ w0.heap.size by omega) (HB1.out.trans (hbA.mono (by omega))) HAt.out (by simp; omega)) ?_
  rintro e w2 ⟨rfl, hat, hb2⟩
  obtain ⟨t1, t2, v2, t3, t4, t5⟩ := hat
  obtain ⟨a2, cap2, rfl, _, _⟩ := t4.row
  have hB2 : Below w.heap.size w w2 := HB1.out.trans ((hbA.mono (by omega)).trans (hb2.mono (by omega)))
  have hA2 : w2.heap[w.heap.size]? = some (.cells #[.slice a ns.length cap] 26 (0, 0)) := (hb2.block _ (by omega)).trans ((hbA.block _ (by omega)).trans HA1.out)
  have hR2 : w2.heap[w.heap.size + 1]? = some (.cells #[.slice none 0 0] 26 (0, 0)) := (hb2.block _ (by omega)).trans ((hbA.block _ (by omega)).trans HR1.out)
  have hs2 : w1.heap.size < w2.heap.size := t2
  clear HP HAt hb2 hbA HB1 HA1 HR1 t1 t2 t5
  by_cases hk : K < 0
  · have o0 : w2.cell? ⟨w.heap.size, 0, none⟩ = some (.slice a ns.length cap) := (cell_of_row w2 _ 0 _ _ _ hA2).trans rfl
    have HB2 : Hid (Below w.heap.size w w2) := hB2
    have HR2 : Hid (w2.heap[w.heap.size + 1]? = some (.cells #[.slice none 0 0] 26 (0, 0))) := hR2
    clear t3 t4 hA2 hR2 hB2
    go_wp2_with fail
    refine (specCopy_any a cap ns w2 hl HA.out (HR.out.grown HB2.out)).mono ?_
    rintro e w3 ⟨v3, rfl, ho3, hb3⟩
    obtain ⟨a3, cap3, rfl, _, _⟩ := ho3.row
    have hR3 := (hb3.block (w.heap.size + 1) (by omega)).trans HR2.out
    have r0 : w3.cell? ⟨w.heap.size + 1, 0, none⟩ = some (.slice none 0 0) := (cell_of_row w3 _ 0 _ _ _ hR3).trans rfl
    have f0 : w3.frozen? ⟨w.heap.size + 1, 0, none⟩ = false := frozen_of_row w3 _ 0 _ _ hR3
    have HBL : Hid ((w3.setCell ⟨w.heap.size + 1, 0, none⟩ (.slice a3 ns.length cap3)).heap[w.heap.size + 1]? = some (.cells #[.slice a3 ns.length cap3] 26 (0, 0))) := (heap_setCell_same w3 _ 0 _ _ _ hR3).trans rfl
    have HO3 : Hid (OwnN w.heap.size (w3.setCell ⟨w.heap.size + 1, 0, none⟩ (.slice a3 ns.length cap3)) (.slice a3 ns.length cap3) ns) := OwnN.base (ownsRow_setCell_below ho3 (show w.heap.size + 1 < w2.heap.size by omega) _) (by omega)
    have HB3 : Hid (Below w.heap.size w (w3.setCell ⟨w.heap.size + 1, 0, none⟩ (.slice a3 ns.length cap3))) := (HB2.out.trans (hb3.mono (by omega))).setCell (show w.heap.size ≤ w.heap.size + 1 by omega) _
    clear ho3 hb3 hR3 o0
    go_wp2
    refine bodyPost_ret (res_cell2 rfl _ _ (w.heap.size + 1) 26 #[.slice a3 ns.length cap3] (0, 0) _ rfl ?_ Try.underlying26 rfl arenaSize) rfl ?_
    · exact HBL.out
    · exact ⟨_, by rw [HN1.out hk]; rfl, by rw [HN2.out hk]; exact HO3.out, HB3.out⟩
  · have o0 : w2.cell? ⟨w1.heap.size, 0, none⟩ = some (.slice a2 A.length cap2) := (cell_of_row w2 _ 0 _ _ _ t3).trans rfl
    have r0 : w2.cell? ⟨w.heap.size + 1, 0, none⟩ = some (.slice none 0 0) := (cell_of_row w2 _ 0 _ _ _ hR2).trans rfl
    have f0 : w2.frozen? ⟨w.heap.size + 1, 0, none⟩ = false := frozen_of_row w2 _ 0 _ _ hR2
    have HBL : Hid ((w2.setCell ⟨w.heap.size + 1, 0, none⟩ (.slice a2 A.length cap2)).heap[w.heap.size + 1]? = some (.cells #[.slice a2 A.length cap2] 26 (0, 0))) := (heap_setCell_same w2 _ 0 _ _ _ hR2).trans rfl
    have HO2 : Hid (OwnN w.heap.size (w2.setCell ⟨w.heap.size + 1, 0, none⟩ (.slice a2 A.length cap2)) (.slice a2 A.length cap2) A) := OwnN.base (ownsRow_setCell_below t4 (show w.heap.size + 1 < w0.heap.size by omega) _) (by omega)
    have HB2 : Hid (Below w.heap.size w (w2.setCell ⟨w.heap.size + 1, 0, none⟩ (.slice a2 A.length cap2))) := hB2.setCell (show w.heap.size ≤ w.heap.size + 1 by omega) _
    clear t3 t4 hA2 hR2 hB2
    go_wp2
    refine bodyPost_ret (res_cell2 rfl _ _ (w.heap.size + 1) 26 #[.slice a2 A.length cap2] (0, 0) _ rfl ?_ Try.underlying26 rfl arenaSize) rfl ?_
    · exact HBL.out
    · exact ⟨_, rfl, by rw [HN3.out hk]; exact HO2.out, HB2.out⟩
end Go.Proofs.Ytlmkkkpjcpopkaa
