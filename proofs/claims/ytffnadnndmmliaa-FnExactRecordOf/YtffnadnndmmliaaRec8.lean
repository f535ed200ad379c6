/- The contracts of chapter 8's l08Record and RecordOf, the specification's, and what they make in plain words. -/
import Derived.Test.YtffnadnndmmliaaArenaD
import Derived.Test.YtffnadnndmmliaaKeptS
import Derived.Test.YtffnadnndmmliaaHeldQ
import Derived.Test.YtffnadnndmmliaaListLit
import Derived.WalkKit
import Derived.WalkLawsBesides
import Derived.WalkSpells
import Derived.Laws.Rows
namespace Go.Proofs.Ytffnadnndmmliaa
open Go.RowKit
set_option linter.unusedVariables false
/-- A record, made step by step. -/
def rcA1 (ns : List Nd) (e : Int) : List Nd := putA ns ⟨1, e, 0, 0⟩
def rcK1 (ns : List Nd) (e : Int) : Int := putK ns ⟨1, e, 0, 0⟩
def rcA2 (ns : List Nd) (e s : Int) : List Nd := putA (rcA1 ns e) ⟨1, s, 0, 0⟩
def rcK2 (ns : List Nd) (e s : Int) : Int := putK (rcA1 ns e) ⟨1, s, 0, 0⟩
def rcIn (ns : List Nd) (e s body : Int) : List Nd × Int := listF [rcK1 ns e, rcK2 ns e s, body] (rcA2 ns e s)
def rcA4 (ns : List Nd) (key e s body : Int) : List Nd := makeA (rcIn ns e s body).1 5 key (rcIn ns e s body).2
def rcK4 (ns : List Nd) (key e s body : Int) : Int := makeK (rcIn ns e s body).1 5 key (rcIn ns e s body).2
def recF (ns : List Nd) (key e s body : Int) : List Nd × Int := listF [rcK1 ns e, rcK2 ns e s, rcK4 ns key e s body] (rcA4 ns key e s body)
def recB (ns : List Nd) (key e s body : Int) : Bool := inB e 0 8 && (inB s 0 9999 && (okAt ns key && okAt ns body))
def recA (ns : List Nd) (key e s body : Int) : List Nd := if recB ns key e s body = true then (recF ns key e s body).1 else ns
def recK (ns : List Nd) (key e s body : Int) : Int := if recB ns key e s body = true then (recF ns key e s body).2 else -1
theorem rcA2_le {ns : List Nd} {e s : Int} (h : ns.length ≤ 1048576) : (rcA2 ns e s).length ≤ 1048576 := putA_le2 (putA_le2 h)
theorem rcIn_le {ns : List Nd} {e s body : Int} (h : ns.length ≤ 1048576) : (rcIn ns e s body).1.length ≤ 1048576 := listF_le _ (rcA2_le h)
theorem rcA4_le {ns : List Nd} {key e s body : Int} (h : ns.length ≤ 1048576) : (rcA4 ns key e s body).length ≤ 1048576 := makeA_le (rcIn_le h)
theorem recA_le {ns : List Nd} {key e s body : Int} (h : ns.length ≤ 1048576) : (recA ns key e s body).length ≤ 1048576 := by
  unfold recA; split
  · exact listF_le _ (rcA4_le h)
  · exact h
set_option maxHeartbeats 3200000 in
theorem specRecD_any (D : Nat → Prop) (g : Nat) (ns : List Nd) (key : Int) (ep : Int) (sq : Int) (body : Int) (w : World) (hl : ns.length ≤ 1048576) (h : ArD D w g ns) (hB : ∀ k, D k → k < w.heap.size) :
    Calls Try.prog 126 #[.pointer (some ⟨g, 0, none⟩), .int .i64 key, .int .i64 ep, .int .i64 sq, .int .i64 body] w fun e w' => e = .returned (.int .i64 (recK ns key ep sq body)) ∧ ArD D w' g (recA ns key ep sq body) ∧ Safe D w w' := by
  have H0 : Hid (ArD D w g ns ∧ Safe D w w) := ⟨h, Safe.refl _ _⟩
  have HBO : Hid (∀ k, D k → k < w.heap.size) := hB
  obtain ⟨h1, h2, v, h3, h4, h5, h6⟩ := h
  obtain ⟨a, cap, rfl, ha, hr⟩ := h4.row
  have HC : Hid (w.heap[g]? = some (.cells #[.slice a ns.length cap] 28 (0, 0))) := h3
  have HR : Hid (RowN w.heap.size w a ns) := hr
  have hgl : g < w.heap.size := h2
  clear h1 h2 h3 h4 h5 h6 ha hr hB
  obtain ⟨d0, HD0⟩ : ∃ d, Hid (inB ep 0 8 = d) := ⟨_, rfl⟩
  obtain ⟨d1, HD1⟩ : ∃ d, Hid (inB sq 0 9999 = d) := ⟨_, rfl⟩
  obtain ⟨d2, HD2⟩ : ∃ d, Hid (okAt ns key = d) := ⟨_, rfl⟩
  obtain ⟨d3, HD3⟩ : ∃ d, Hid (okAt ns body = d) := ⟨_, rfl⟩
  have HE : Hid (recB ns key ep sq body = (d0 && (d1 && (d2 && d3)))) := by show _ = _; unfold recB; rw [HD0.out, HD1.out, HD2.out, HD3.out]
  have HB0 : Hid (Below w.heap.size w w) := Below.refl _ _
  cases d0
  · have HK : Hid (recK ns key ep sq body = -1 ∧ recA ns key ep sq body = ns) := by
      refine ⟨?_, ?_⟩
      · unfold recK; rw [HE.out]; rfl
      · unfold recA; rw [HE.out]; rfl
    clear HE
    go_enter Try.func126, Try.ntmps126
    go_wp2_with (first | (go_at_call 99; refine (specIn_any _ _ _ _).mono ?_; rintro e w' ⟨rfl, rfl⟩; rw [HD0.out]))
    go_ret
    exact ⟨by rw [HK.out.1]; rfl, by rw [HK.out.2]; exact H0.out.1.later HB0.out, Safe.of_below HB0.out HBO.out⟩
  cases d1
  · have HK : Hid (recK ns key ep sq body = -1 ∧ recA ns key ep sq body = ns) := by
      refine ⟨?_, ?_⟩
      · unfold recK; rw [HE.out]; rfl
      · unfold recA; rw [HE.out]; rfl
    clear HE
    go_enter Try.func126, Try.ntmps126
    go_wp2_with (first | (go_at_call 99; refine (specIn_any _ _ _ _).mono ?_; rintro e w' ⟨rfl, rfl⟩; rw [HD0.out]) | (go_at_call 99; refine (specIn_any _ _ _ _).mono ?_; rintro e w' ⟨rfl, rfl⟩; rw [HD1.out]))
    go_ret
    exact ⟨by rw [HK.out.1]; rfl, by rw [HK.out.2]; exact H0.out.1.later HB0.out, Safe.of_below HB0.out HBO.out⟩
  cases d2
  · have HK : Hid (recK ns key ep sq body = -1 ∧ recA ns key ep sq body = ns) := by
      refine ⟨?_, ?_⟩
      · unfold recK; rw [HE.out]; rfl
      · unfold recA; rw [HE.out]; rfl
    clear HE
    go_enter Try.func126, Try.ntmps126
    have c0 : w.cell? ⟨g, 0, none⟩ = some (.slice a ns.length cap) := by rw [cell_of_row w g 0 _ _ _ HC.out]; rfl
    go_wp2_with (first | (go_at_call 99; refine (specIn_any _ _ _ _).mono ?_; rintro e w' ⟨rfl, rfl⟩; rw [HD0.out]) | (go_at_call 99; refine (specIn_any _ _ _ _).mono ?_; rintro e w' ⟨rfl, rfl⟩; rw [HD1.out]))
    refine (specOk_any a cap ns key w hl (HR.out.grown HB0.out)).mono ?_
    rintro e v1 ⟨rfl, hb⟩
    rw [HD2.out]
    have HB1 : Hid (Below w.heap.size w v1) := HB0.out.trans (hb.mono HB0.out.size)
    clear hb c0
    have c0 : v1.cell? ⟨g, 0, none⟩ = some (.slice a ns.length cap) := by rw [cell_of_row v1 g 0 _ _ _ ((HB1.out.block g hgl).trans HC.out)]; rfl
    clear c0
    go_wp2_with (first | (go_at_call 99; refine (specIn_any _ _ _ _).mono ?_; rintro e w' ⟨rfl, rfl⟩; rw [HD0.out]) | (go_at_call 99; refine (specIn_any _ _ _ _).mono ?_; rintro e w' ⟨rfl, rfl⟩; rw [HD1.out]))
    go_ret
    exact ⟨by rw [HK.out.1]; rfl, by rw [HK.out.2]; exact H0.out.1.later HB1.out, Safe.of_below HB1.out HBO.out⟩
  cases d3
  · have HK : Hid (recK ns key ep sq body = -1 ∧ recA ns key ep sq body = ns) := by
      refine ⟨?_, ?_⟩
      · unfold recK; rw [HE.out]; rfl
      · unfold recA; rw [HE.out]; rfl
    clear HE
    go_enter Try.func126, Try.ntmps126
    have c0 : w.cell? ⟨g, 0, none⟩ = some (.slice a ns.length cap) := by rw [cell_of_row w g 0 _ _ _ HC.out]; rfl
    go_wp2_with (first | (go_at_call 99; refine (specIn_any _ _ _ _).mono ?_; rintro e w' ⟨rfl, rfl⟩; rw [HD0.out]) | (go_at_call 99; refine (specIn_any _ _ _ _).mono ?_; rintro e w' ⟨rfl, rfl⟩; rw [HD1.out]))
    refine (specOk_any a cap ns key w hl (HR.out.grown HB0.out)).mono ?_
    rintro e v1 ⟨rfl, hb⟩
    rw [HD2.out]
    have HB1 : Hid (Below w.heap.size w v1) := HB0.out.trans (hb.mono HB0.out.size)
    clear hb c0
    have c0 : v1.cell? ⟨g, 0, none⟩ = some (.slice a ns.length cap) := by rw [cell_of_row v1 g 0 _ _ _ ((HB1.out.block g hgl).trans HC.out)]; rfl
    go_wp2_with (first | (go_at_call 99; refine (specIn_any _ _ _ _).mono ?_; rintro e w' ⟨rfl, rfl⟩; rw [HD0.out]) | (go_at_call 99; refine (specIn_any _ _ _ _).mono ?_; rintro e w' ⟨rfl, rfl⟩; rw [HD1.out]))
    refine (specOk_any a cap ns body v1 hl (HR.out.grown HB1.out)).mono ?_
    rintro e v2 ⟨rfl, hb⟩
    rw [HD3.out]
    have HB2 : Hid (Below w.heap.size w v2) := HB1.out.trans (hb.mono HB1.out.size)
    clear hb c0
    have c0 : v2.cell? ⟨g, 0, none⟩ = some (.slice a ns.length cap) := by rw [cell_of_row v2 g 0 _ _ _ ((HB2.out.block g hgl).trans HC.out)]; rfl
    clear c0
    go_wp2_with (first | (go_at_call 99; refine (specIn_any _ _ _ _).mono ?_; rintro e w' ⟨rfl, rfl⟩; rw [HD0.out]) | (go_at_call 99; refine (specIn_any _ _ _ _).mono ?_; rintro e w' ⟨rfl, rfl⟩; rw [HD1.out]))
    go_ret
    exact ⟨by rw [HK.out.1]; rfl, by rw [HK.out.2]; exact H0.out.1.later HB2.out, Safe.of_below HB2.out HBO.out⟩
  have HK : Hid (recK ns key ep sq body = (recF ns key ep sq body).2 ∧ recA ns key ep sq body = (recF ns key ep sq body).1) := by
    refine ⟨?_, ?_⟩
    · unfold recK; rw [HE.out]; rfl
    · unfold recA; rw [HE.out]; rfl
  clear HE
  go_enter Try.func126, Try.ntmps126
  have c0 : w.cell? ⟨g, 0, none⟩ = some (.slice a ns.length cap) := by rw [cell_of_row w g 0 _ _ _ HC.out]; rfl
  go_wp2_with (first | (go_at_call 99; refine (specIn_any _ _ _ _).mono ?_; rintro e w' ⟨rfl, rfl⟩; rw [HD0.out]) | (go_at_call 99; refine (specIn_any _ _ _ _).mono ?_; rintro e w' ⟨rfl, rfl⟩; rw [HD1.out]))
  refine (specOk_any a cap ns key w hl (HR.out.grown HB0.out)).mono ?_
  rintro e v1 ⟨rfl, hb⟩
  rw [HD2.out]
  have HB1 : Hid (Below w.heap.size w v1) := HB0.out.trans (hb.mono HB0.out.size)
  clear hb c0
  have c0 : v1.cell? ⟨g, 0, none⟩ = some (.slice a ns.length cap) := by rw [cell_of_row v1 g 0 _ _ _ ((HB1.out.block g hgl).trans HC.out)]; rfl
  go_wp2_with (first | (go_at_call 99; refine (specIn_any _ _ _ _).mono ?_; rintro e w' ⟨rfl, rfl⟩; rw [HD0.out]) | (go_at_call 99; refine (specIn_any _ _ _ _).mono ?_; rintro e w' ⟨rfl, rfl⟩; rw [HD1.out]))
  refine (specOk_any a cap ns body v1 hl (HR.out.grown HB1.out)).mono ?_
  rintro e v2 ⟨rfl, hb⟩
  rw [HD3.out]
  have HB2 : Hid (Below w.heap.size w v2) := HB1.out.trans (hb.mono HB1.out.size)
  clear hb c0
  have c0 : v2.cell? ⟨g, 0, none⟩ = some (.slice a ns.length cap) := by rw [cell_of_row v2 g 0 _ _ _ ((HB2.out.block g hgl).trans HC.out)]; rfl
  have H1 : Hid (ArD D v2 g ns ∧ Safe D w v2) := ⟨H0.out.1.later HB2.out, Safe.of_below HB2.out HBO.out⟩
  clear H0 c0
  have H0 : Hid (ArD D v2 g ns ∧ Safe D w v2) := H1.out
  clear H1
  go_wp2_with (first | (go_at_call 99; refine (specIn_any _ _ _ _).mono ?_; rintro e w' ⟨rfl, rfl⟩; rw [HD0.out]) | (go_at_call 99; refine (specIn_any _ _ _ _).mono ?_; rintro e w' ⟨rfl, rfl⟩; rw [HD1.out]))
  refine Calls.mono (specAtomD_any D g (ns) (ep) v2 (hl) H0.out.1 (H0.out.2.old HBO.out)) ?_
  rintro e w1 ⟨rfl, ha, hb⟩
  have H1 : Hid (ArD D w1 g _ ∧ Safe D w w1) := ⟨ha, H0.out.2.trans hb⟩
  clear ha hb H0
  go_wp2_with fail
  refine Calls.mono (specAtomD_any D g (rcA1 ns ep) (sq) w1 (putA_le2 hl) H1.out.1 (H1.out.2.old HBO.out)) ?_
  rintro e w2 ⟨rfl, ha, hb⟩
  have H2 : Hid (ArD D w2 g _ ∧ Safe D w w2) := ⟨ha, H1.out.2.trans hb⟩
  clear ha hb H1
  go_wp2_with fail
  refine Calls.mono (listLit_any D g (rcA2 ns ep sq) [rcK1 ns ep, rcK2 ns ep sq, body] w2 (rcA2_le hl) (by simp) H2.out.1 (H2.out.2.old HBO.out)) ?_
  rintro e w3 ⟨rfl, ha, hb⟩
  have H3 : Hid (ArD D w3 g _ ∧ Safe D w w3) := ⟨ha, H2.out.2.trans hb⟩
  clear ha hb H2
  go_wp2_with fail
  refine Calls.mono (specMakeD_any D g ((rcIn ns ep sq body).1) 5 (key) ((rcIn ns ep sq body).2) w3 (rcIn_le hl) H3.out.1 (H3.out.2.old HBO.out)) ?_
  rintro e w4 ⟨rfl, ha, hb⟩
  have H4 : Hid (ArD D w4 g _ ∧ Safe D w w4) := ⟨ha, H3.out.2.trans hb⟩
  clear ha hb H3
  go_wp2_with fail
  refine Calls.mono (listLit_any D g (rcA4 ns key ep sq body) [rcK1 ns ep, rcK2 ns ep sq, rcK4 ns key ep sq body] w4 (rcA4_le hl) (by simp) H4.out.1 (H4.out.2.old HBO.out)) ?_
  rintro e w5 ⟨rfl, ha, hb⟩
  have H5 : Hid (ArD D w5 g _ ∧ Safe D w w5) := ⟨ha, H4.out.2.trans hb⟩
  clear ha hb H4
  go_wp2
  go_ret
  exact ⟨by rw [HK.out.1]; rfl, by rw [HK.out.2]; exact H5.out.1, H5.out.2⟩
set_option maxHeartbeats 1600000 in
theorem specRec_any (a : Option Addr) (cap : Nat) (ns : List Nd) (key : Int) (ep : Int) (sq : Int) (body : Int) (w : World) (hl : ns.length ≤ 1048576) (ha : AddrN a cap) (hr : RowN w.heap.size w a ns) :
    Calls Try.prog 54 #[.agg #[.slice a ns.length cap], .int .i64 key, .int .i64 ep, .int .i64 sq, .int .i64 body] w fun e w' => ∃ v, e = .returned (.tuple #[.agg #[v], .int .i64 (recK ns key ep sq body)]) ∧ OwnN w.heap.size w' v (keptA ns (recA ns key ep sq body) (recK ns key ep sq body)) ∧ Below w.heap.size w w' := by
  obtain ⟨A, K, HP, HN, hEK, hEA⟩ : ∃ (A : List Nd) (K : Int), Hid (∀ (B g : Nat) (wz : World), ArenaAt B wz g ns → B ≤ wz.heap.size → Calls Try.prog 126 #[.pointer (some ⟨g, 0, none⟩), .int .i64 key, .int .i64 ep, .int .i64 sq, .int .i64 body] wz fun e w' => e = .returned (.int .i64 K) ∧ ArenaAt B w' g A ∧ Below B wz w') ∧ Hid True ∧ K = recK ns key ep sq body ∧ A = recA ns key ep sq body := ⟨_, _, fun B g wz h hB => (specRecD_any (fun k => k < B) g ns key ep sq body wz hl h.toD (fun k hk => Nat.lt_of_lt_of_le hk hB)).mono fun _ _ ⟨he, ha, hs⟩ => ⟨he, ha.toB, hs.below (fun k hk => hk)⟩, trivial, rfl, rfl⟩
  rw [← hEK, ← hEA]
  clear hEK hEA HN
  have hb0 : Below w.heap.size w ((w.alloc (.cells #[.slice a ns.length cap] 28)).alloc (.cells #[.slice none 0 0] 28)) := ((Below.refl _ _).alloc (Nat.le_refl _) _).alloc (by simp) _
  have hs0 : ((w.alloc (.cells #[.slice a ns.length cap] 28)).alloc (.cells #[.slice none 0 0] 28)).heap.size = w.heap.size + 2 := by simp
  have hA0 : ((w.alloc (.cells #[.slice a ns.length cap] 28)).alloc (.cells #[.slice none 0 0] 28)).heap[w.heap.size]? = some (.cells #[.slice a ns.length cap] 28 (0, 0)) := (heap_alloc_old _ _ (by simp)).trans (heap_alloc_new w _)
  have hr0 : ((w.alloc (.cells #[.slice a ns.length cap] 28)).alloc (.cells #[.slice none 0 0] 28)).heap[w.heap.size + 1]? = some (.cells #[.slice none 0 0] 28 (0, 0)) := by
    have := heap_alloc_new (w.alloc (.cells #[.slice a ns.length cap] 28)) (.cells #[.slice none 0 0] 28)
    simpa using this
  have HR : Hid (RowN w.heap.size w a ns) := hr
  have HA : Hid (AddrN a cap) := ha
  clear hr ha
  go_enter Try.func54, Try.ntmps54
  go_wp2_with fail
  generalize (w.alloc (.cells #[.slice a ns.length cap] 28)).alloc (.cells #[.slice none 0 0] 28) = w0 at hb0 hs0 hA0 hr0 ⊢
  refine (specCopy_any a cap ns w0 hl HA.out (HR.out.grown hb0)).mono ?_
  rintro e w1 ⟨v, rfl, hown, hb1⟩
  obtain ⟨a1, cap1, rfl, ha1, hr1⟩ := hown.row
  have hs1 := hb1.size
  have hbA : Below w1.heap.size w1 (w1.alloc (.cells #[.slice a1 ns.length cap1] 28)) := (Below.refl _ _).alloc (Nat.le_refl _) _
  have HAt : Hid (ArenaAt w0.heap.size (w1.alloc (.cells #[.slice a1 ns.length cap1] 28)) w1.heap.size ns) := ⟨hs1, by simp, _, heap_alloc_new w1 _, hown.later hbA, fun h => by have := (hown.lt _ h).2; omega⟩
  have HB1 : Hid (Below w.heap.size w (w1.alloc (.cells #[.slice a1 ns.length cap1] 28))) := (hb0.trans (hb1.mono (by omega))).trans (hbA.mono (by omega))
  have HA1 : Hid ((w1.alloc (.cells #[.slice a1 ns.length cap1] 28)).heap[w.heap.size]? = some (.cells #[.slice a ns.length cap] 28 (0, 0))) := (hbA.block _ (by omega)).trans ((hb1.block w.heap.size (by omega)).trans hA0)
  have HR1 : Hid ((w1.alloc (.cells #[.slice a1 ns.length cap1] 28)).heap[w.heap.size + 1]? = some (.cells #[.slice none 0 0] 28 (0, 0))) := (hbA.block _ (by omega)).trans ((hb1.block (w.heap.size + 1) (by omega)).trans hr0)
  clear hown hb0 hb1 hA0 hr0 ha1 hr1 hbA
  go_wp2_with fail
  refine Calls.mono (HP.out _ _ _ HAt.out (by simp; omega)) ?_
  rintro e w2 ⟨rfl, hat, hb2⟩
  obtain ⟨t1, t2, v2, t3, t4, t5⟩ := hat
  obtain ⟨a2, cap2, rfl, -, -⟩ := t4.row
  have HB2 : Hid (Below w.heap.size w w2) := HB1.out.trans (hb2.mono (by omega))
  have hA2 := (hb2.block w.heap.size (by omega)).trans HA1.out
  have hR2 := (hb2.block (w.heap.size + 1) (by omega)).trans HR1.out
  have o0 : w2.cell? ⟨w.heap.size, 0, none⟩ = some (.slice a ns.length cap) := (cell_of_row w2 _ 0 _ _ _ hA2).trans rfl
  have o1 : w2.cell? ⟨w1.heap.size, 0, none⟩ = some (.slice a2 A.length cap2) := (cell_of_row w2 _ 0 _ _ _ t3).trans rfl
  have HR2 : Hid (w2.heap[w.heap.size + 1]? = some (.cells #[.slice none 0 0] 28 (0, 0))) := hR2
  have HO2 : Hid (OwnN w0.heap.size w2 (.slice a2 A.length cap2) A) := t4
  have hs2 : w1.heap.size < w2.heap.size := t2
  clear HP HAt hb2 HB1 HA1 HR1 t1 t2 t3 t4 t5 hA2 hR2
  go_wp2_with fail
  refine (kept_any a a2 cap cap2 ns A K w2 hl HA.out (HR.out.grown HB2.out)).mono ?_
  rintro e w3 ⟨v3, rfl, hb3, hn3, hp3⟩
  obtain ⟨a3, n3, c3, rfl⟩ : ∃ a n c, v3 = .slice a n c := by
    by_cases hk : K < 0
    · obtain ⟨a3, c3, rfl, -, -⟩ := (hn3 hk).row; exact ⟨_, _, _, rfl⟩
    · exact ⟨_, _, _, hp3 hk⟩
  have hR3 := (hb3.block (w.heap.size + 1) (by omega)).trans HR2.out
  have r0 : w3.cell? ⟨w.heap.size + 1, 0, none⟩ = some (.slice none 0 0) := (cell_of_row w3 _ 0 _ _ _ hR3).trans rfl
  have f0 : w3.frozen? ⟨w.heap.size + 1, 0, none⟩ = false := frozen_of_row w3 _ 0 _ _ hR3
  have HBL : Hid ((w3.setCell ⟨w.heap.size + 1, 0, none⟩ (.slice a3 n3 c3)).heap[w.heap.size + 1]? = some (.cells #[.slice a3 n3 c3] 28 (0, 0))) := (heap_setCell_same w3 _ 0 _ _ _ hR3).trans rfl
  have HO3 : Hid (OwnN w.heap.size (w3.setCell ⟨w.heap.size + 1, 0, none⟩ (.slice a3 n3 c3)) (.slice a3 n3 c3) (keptA ns A K)) := by
    by_cases hk : K < 0
    · show OwnN _ _ _ _; rw [keptA_neg hk]; exact OwnN.base (ownsRow_setCell_below (hn3 hk) (show w.heap.size + 1 < w2.heap.size by omega) _) (by omega)
    · show OwnN _ _ _ _; rw [keptA_pos hk, hp3 hk]; exact OwnN.base (ownsRow_setCell_below (HO2.out.later hb3) (show w.heap.size + 1 < w0.heap.size by omega) _) (by omega)
  have HB3 : Hid (Below w.heap.size w (w3.setCell ⟨w.heap.size + 1, 0, none⟩ (.slice a3 n3 c3))) := (HB2.out.trans (hb3.mono (by omega))).setCell (show w.heap.size ≤ w.heap.size + 1 by omega) _
  clear hb3 hn3 hp3 hR3 o0 o1 HO2 HR2 HB2
  go_wp2
  refine bodyPost_ret (res_cell2 rfl _ _ (w.heap.size + 1) 28 #[.slice a3 n3 c3] (0, 0) _ rfl ?_ Try.underlying28 rfl arenaSize) rfl ?_
  · exact HBL.out
  · exact ⟨_, rfl, HO3.out, HB3.out⟩
end Go.Proofs.Ytffnadnndmmliaa
