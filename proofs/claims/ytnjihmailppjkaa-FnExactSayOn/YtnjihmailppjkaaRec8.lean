/- The contracts of chapter 8's l08Record and RecordOf, the specification's, and what they make in plain words. -/
import Derived.Test.YtnjihmailppjkaaArenaD
import Derived.Test.YtnjihmailppjkaaListLit
import Derived.Test.YtnjihmailppjkaaTermAt
import Derived.WalkKit
import Derived.WalkLawsBesides
import Derived.WalkSpells
import Derived.Laws.Rows
namespace Go.Proofs.Ytnjihmailppjkaa
open Go.RowKit
set_option linter.unusedVariables false
/-- A record, made step by step. -/
def rcA1 (ns : List Nd) (e : Int) : List Nd := putA ns ⟨1, e, 0, 0⟩
def rcK1 (ns : List Nd) (e : Int) : Int := putK ns ⟨1, e, 0, 0⟩
def rcA2 (ns : List Nd) (e s : Int) : List Nd := putA (rcA1 ns e) ⟨1, s, 0, 0⟩
def rcK2 (ns : List Nd) (e s : Int) : Int := putK (rcA1 ns e) ⟨1, s, 0, 0⟩
def rcIn (ns : List Nd) (e s body : Int) : List Nd × Int := listF [rcK1 ns e, rcK2 ns e s, body] (rcA2 ns e s)
def rcA4 (ns : List Nd) (key e s body : Int) : List Nd := makeA (rcIn ns e s body).1 5 key (rcIn ns e s body).2
def rcK4 (ns : List Nd) (key e s body : Int) : Int := makeK (rcIn ns e s body).1 5 key (rcIn ns e s body).2
def recF (ns : List Nd) (key e s body : Int) : List Nd × Int := listF [rcK1 ns e, rcK2 ns e s, rcK4 ns key e s body] (rcA4 ns key e s body)
def recB (ns : List Nd) (key e s body : Int) : Bool := inB e 0 8 && (inB s 0 9999 && (okAt ns key && okAt ns body))
def recA (ns : List Nd) (key e s body : Int) : List Nd := if recB ns key e s body = true then (recF ns key e s body).1 else ns
def recK (ns : List Nd) (key e s body : Int) : Int := if recB ns key e s body = true then (recF ns key e s body).2 else -1
theorem rcA2_le {ns : List Nd} {e s : Int} (h : ns.length ≤ 1048576) : (rcA2 ns e s).length ≤ 1048576 := putA_le2 (putA_le2 h)
theorem rcIn_le {ns : List Nd} {e s body : Int} (h : ns.length ≤ 1048576) : (rcIn ns e s body).1.length ≤ 1048576 := listF_le _ (rcA2_le h)
theorem rcA4_le {ns : List Nd} {key e s body : Int} (h : ns.length ≤ 1048576) : (rcA4 ns key e s body).length ≤ 1048576 := makeA_le (rcIn_le h)
theorem recA_le {ns : List Nd} {key e s body : Int} (h : ns.length ≤ 1048576) : (recA ns key e s body).length ≤ 1048576 := by
  unfold recA; split
  · exact listF_le _ (rcA4_le h)
  · exact h
set_option maxHeartbeats 3200000 in
theorem specRecD_any (D : Nat → Prop) (g : Nat) (ns : List Nd) (key : Int) (ep : Int) (sq : Int) (body : Int) (w : World) (hl : ns.length ≤ 1048576) (h : ArD D w g ns) (hB : ∀ k, D k → k < w.heap.size) :
    Calls Try.prog 55 #[.pointer (some ⟨g, 0, none⟩), .int .i64 key, .int .i64 ep, .int .i64 sq, .int .i64 body] w fun e w' => e = .returned (.int .i64 (recK ns key ep sq body)) ∧ ArD D w' g (recA ns key ep sq body) ∧ Safe D w w' := by
  have H0 : Hid (ArD D w g ns ∧ Safe D w w) := ⟨h, Safe.refl _ _⟩
  have HBO : Hid (∀ k, D k → k < w.heap.size) := hB
  obtain ⟨h1, h2, v, h3, h4, h5, h6⟩ := h
  obtain ⟨a, cap, rfl, ha, hr⟩ := h4.row
  have HC : Hid (w.heap[g]? = some (.cells #[.slice a ns.length cap] 39 (0, 0))) := h3
  have HR : Hid (RowN w.heap.size w a ns) := hr
  have hgl : g < w.heap.size := h2
  clear h1 h2 h3 h4 h5 h6 ha hr hB
  obtain ⟨d0, HD0⟩ : ∃ d, Hid (inB ep 0 8 = d) := ⟨_, rfl⟩
  obtain ⟨d1, HD1⟩ : ∃ d, Hid (inB sq 0 9999 = d) := ⟨_, rfl⟩
  obtain ⟨d2, HD2⟩ : ∃ d, Hid (okAt ns key = d) := ⟨_, rfl⟩
  obtain ⟨d3, HD3⟩ : ∃ d, Hid (okAt ns body = d) := ⟨_, rfl⟩
  have HE : Hid (recB ns key ep sq body = (d0 && (d1 && (d2 && d3)))) := by show _ = _; unfold recB; rw [HD0.out, HD1.out, HD2.out, HD3.out]
  have HB0 : Hid (Below w.heap.size w w) := Below.refl _ _
  cases d0
  · have HK : Hid (recK ns key ep sq body = -1 ∧ recA ns key ep sq body = ns) := by
      refine ⟨?_, ?_⟩
      · unfold recK; rw [HE.out]; rfl
      · unfold recA; rw [HE.out]; rfl
    clear HE
    go_enter Try.func55, Try.ntmps55
    go_wp2_with (first | (go_at_call 30; refine (specIn_any _ _ _ _).mono ?_; rintro e w' ⟨rfl, rfl⟩; rw [HD0.out]))
    go_ret
    exact ⟨by rw [HK.out.1]; rfl, by rw [HK.out.2]; exact H0.out.1.later HB0.out, Safe.of_below HB0.out HBO.out⟩
  cases d1
  · have HK : Hid (recK ns key ep sq body = -1 ∧ recA ns key ep sq body = ns) := by
      refine ⟨?_, ?_⟩
      · unfold recK; rw [HE.out]; rfl
      · unfold recA; rw [HE.out]; rfl
    clear HE
    go_enter Try.func55, Try.ntmps55
    go_wp2_with (first | (go_at_call 30; refine (specIn_any _ _ _ _).mono ?_; rintro e w' ⟨rfl, rfl⟩; rw [HD0.out]) | (go_at_call 30; refine (specIn_any _ _ _ _).mono ?_; rintro e w' ⟨rfl, rfl⟩; rw [HD1.out]))
    go_ret
    exact ⟨by rw [HK.out.1]; rfl, by rw [HK.out.2]; exact H0.out.1.later HB0.out, Safe.of_below HB0.out HBO.out⟩
  cases d2
  · have HK : Hid (recK ns key ep sq body = -1 ∧ recA ns key ep sq body = ns) := by
      refine ⟨?_, ?_⟩
      · unfold recK; rw [HE.out]; rfl
      · unfold recA; rw [HE.out]; rfl
    clear HE
    go_enter Try.func55, Try.ntmps55
    have c0 : w.cell? ⟨g, 0, none⟩ = some (.slice a ns.length cap) := by rw [cell_of_row w g 0 _ _ _ HC.out]; rfl
    go_wp2_with (first | (go_at_call 30; refine (specIn_any _ _ _ _).mono ?_; rintro e w' ⟨rfl, rfl⟩; rw [HD0.out]) | (go_at_call 30; refine (specIn_any _ _ _ _).mono ?_; rintro e w' ⟨rfl, rfl⟩; rw [HD1.out]))
    refine (specOk_any a cap ns key w hl (HR.out.grown HB0.out)).mono ?_
    rintro e v1 ⟨rfl, hb⟩
    rw [HD2.out]
    have HB1 : Hid (Below w.heap.size w v1) := HB0.out.trans (hb.mono HB0.out.size)
    clear hb c0
    have c0 : v1.cell? ⟨g, 0, none⟩ = some (.slice a ns.length cap) := by rw [cell_of_row v1 g 0 _ _ _ ((HB1.out.block g hgl).trans HC.out)]; rfl
    clear c0
    go_wp2_with (first | (go_at_call 30; refine (specIn_any _ _ _ _).mono ?_; rintro e w' ⟨rfl, rfl⟩; rw [HD0.out]) | (go_at_call 30; refine (specIn_any _ _ _ _).mono ?_; rintro e w' ⟨rfl, rfl⟩; rw [HD1.out]))
    go_ret
    exact ⟨by rw [HK.out.1]; rfl, by rw [HK.out.2]; exact H0.out.1.later HB1.out, Safe.of_below HB1.out HBO.out⟩
  cases d3
  · have HK : Hid (recK ns key ep sq body = -1 ∧ recA ns key ep sq body = ns) := by
      refine ⟨?_, ?_⟩
      · unfold recK; rw [HE.out]; rfl
      · unfold recA; rw [HE.out]; rfl
    clear HE
    go_enter Try.func55, Try.ntmps55
    have c0 : w.cell? ⟨g, 0, none⟩ = some (.slice a ns.length cap) := by rw [cell_of_row w g 0 _ _ _ HC.out]; rfl
    go_wp2_with (first | (go_at_call 30; refine (specIn_any _ _ _ _).mono ?_; rintro e w' ⟨rfl, rfl⟩; rw [HD0.out]) | (go_at_call 30; refine (specIn_any _ _ _ _).mono ?_; rintro e w' ⟨rfl, rfl⟩; rw [HD1.out]))
    refine (specOk_any a cap ns key w hl (HR.out.grown HB0.out)).mono ?_
    rintro e v1 ⟨rfl, hb⟩
    rw [HD2.out]
    have HB1 : Hid (Below w.heap.size w v1) := HB0.out.trans (hb.mono HB0.out.size)
    clear hb c0
    have c0 : v1.cell? ⟨g, 0, none⟩ = some (.slice a ns.length cap) := by rw [cell_of_row v1 g 0 _ _ _ ((HB1.out.block g hgl).trans HC.out)]; rfl
    go_wp2_with (first | (go_at_call 30; refine (specIn_any _ _ _ _).mono ?_; rintro e w' ⟨rfl, rfl⟩; rw [HD0.out]) | (go_at_call 30; refine (specIn_any _ _ _ _).mono ?_; rintro e w' ⟨rfl, rfl⟩; rw [HD1.out]))
    refine (specOk_any a cap ns body v1 hl (HR.out.grown HB1.out)).mono ?_
    rintro e v2 ⟨rfl, hb⟩
    rw [HD3.out]
    have HB2 : Hid (Below w.heap.size w v2) := HB1.out.trans (hb.mono HB1.out.size)
    clear hb c0
    have c0 : v2.cell? ⟨g, 0, none⟩ = some (.slice a ns.length cap) := by rw [cell_of_row v2 g 0 _ _ _ ((HB2.out.block g hgl).trans HC.out)]; rfl
    clear c0
    go_wp2_with (first | (go_at_call 30; refine (specIn_any _ _ _ _).mono ?_; rintro e w' ⟨rfl, rfl⟩; rw [HD0.out]) | (go_at_call 30; refine (specIn_any _ _ _ _).mono ?_; rintro e w' ⟨rfl, rfl⟩; rw [HD1.out]))
    go_ret
    exact ⟨by rw [HK.out.1]; rfl, by rw [HK.out.2]; exact H0.out.1.later HB2.out, Safe.of_below HB2.out HBO.out⟩
  have HK : Hid (recK ns key ep sq body = (recF ns key ep sq body).2 ∧ recA ns key ep sq body = (recF ns key ep sq body).1) := by
    refine ⟨?_, ?_⟩
    · unfold recK; rw [HE.out]; rfl
    · unfold recA; rw [HE.out]; rfl
  clear HE
  go_enter Try.func55, Try.ntmps55
  have c0 : w.cell? ⟨g, 0, none⟩ = some (.slice a ns.length cap) := by rw [cell_of_row w g 0 _ _ _ HC.out]; rfl
  go_wp2_with (first | (go_at_call 30; refine (specIn_any _ _ _ _).mono ?_; rintro e w' ⟨rfl, rfl⟩; rw [HD0.out]) | (go_at_call 30; refine (specIn_any _ _ _ _).mono ?_; rintro e w' ⟨rfl, rfl⟩; rw [HD1.out]))
  refine (specOk_any a cap ns key w hl (HR.out.grown HB0.out)).mono ?_
  rintro e v1 ⟨rfl, hb⟩
  rw [HD2.out]
  have HB1 : Hid (Below w.heap.size w v1) := HB0.out.trans (hb.mono HB0.out.size)
  clear hb c0
  have c0 : v1.cell? ⟨g, 0, none⟩ = some (.slice a ns.length cap) := by rw [cell_of_row v1 g 0 _ _ _ ((HB1.out.block g hgl).trans HC.out)]; rfl
  go_wp2_with (first | (go_at_call 30; refine (specIn_any _ _ _ _).mono ?_; rintro e w' ⟨rfl, rfl⟩; rw [HD0.out]) | (go_at_call 30; refine (specIn_any _ _ _ _).mono ?_; rintro e w' ⟨rfl, rfl⟩; rw [HD1.out]))
  refine (specOk_any a cap ns body v1 hl (HR.out.grown HB1.out)).mono ?_
  rintro e v2 ⟨rfl, hb⟩
  rw [HD3.out]
  have HB2 : Hid (Below w.heap.size w v2) := HB1.out.trans (hb.mono HB1.out.size)
  clear hb c0
  have c0 : v2.cell? ⟨g, 0, none⟩ = some (.slice a ns.length cap) := by rw [cell_of_row v2 g 0 _ _ _ ((HB2.out.block g hgl).trans HC.out)]; rfl
  have H1 : Hid (ArD D v2 g ns ∧ Safe D w v2) := ⟨H0.out.1.later HB2.out, Safe.of_below HB2.out HBO.out⟩
  clear H0 c0
  have H0 : Hid (ArD D v2 g ns ∧ Safe D w v2) := H1.out
  clear H1
  go_wp2_with (first | (go_at_call 30; refine (specIn_any _ _ _ _).mono ?_; rintro e w' ⟨rfl, rfl⟩; rw [HD0.out]) | (go_at_call 30; refine (specIn_any _ _ _ _).mono ?_; rintro e w' ⟨rfl, rfl⟩; rw [HD1.out]))
  refine Calls.mono (specAtomD_any D g (ns) (ep) v2 (hl) H0.out.1 (H0.out.2.old HBO.out)) ?_
  rintro e w1 ⟨rfl, ha, hb⟩
  have H1 : Hid (ArD D w1 g _ ∧ Safe D w w1) := ⟨ha, H0.out.2.trans hb⟩
  clear ha hb H0
  go_wp2_with fail
  refine Calls.mono (specAtomD_any D g (rcA1 ns ep) (sq) w1 (putA_le2 hl) H1.out.1 (H1.out.2.old HBO.out)) ?_
  rintro e w2 ⟨rfl, ha, hb⟩
  have H2 : Hid (ArD D w2 g _ ∧ Safe D w w2) := ⟨ha, H1.out.2.trans hb⟩
  clear ha hb H1
  go_wp2_with fail
  refine Calls.mono (listLit_any D g (rcA2 ns ep sq) [rcK1 ns ep, rcK2 ns ep sq, body] w2 (rcA2_le hl) (by simp) H2.out.1 (H2.out.2.old HBO.out)) ?_
  rintro e w3 ⟨rfl, ha, hb⟩
  have H3 : Hid (ArD D w3 g _ ∧ Safe D w w3) := ⟨ha, H2.out.2.trans hb⟩
  clear ha hb H2
  go_wp2_with fail
  refine Calls.mono (specMakeD_any D g ((rcIn ns ep sq body).1) 5 (key) ((rcIn ns ep sq body).2) w3 (rcIn_le hl) H3.out.1 (H3.out.2.old HBO.out)) ?_
  rintro e w4 ⟨rfl, ha, hb⟩
  have H4 : Hid (ArD D w4 g _ ∧ Safe D w w4) := ⟨ha, H3.out.2.trans hb⟩
  clear ha hb H3
  go_wp2_with fail
  refine Calls.mono (listLit_any D g (rcA4 ns key ep sq body) [rcK1 ns ep, rcK2 ns ep sq, rcK4 ns key ep sq body] w4 (rcA4_le hl) (by simp) H4.out.1 (H4.out.2.old HBO.out)) ?_
  rintro e w5 ⟨rfl, ha, hb⟩
  have H5 : Hid (ArD D w5 g _ ∧ Safe D w w5) := ⟨ha, H4.out.2.trans hb⟩
  clear ha hb H4
  go_wp2
  go_ret
  exact ⟨by rw [HK.out.1]; rfl, by rw [HK.out.2]; exact H5.out.1, H5.out.2⟩
end Go.Proofs.Ytnjihmailppjkaa
