/- The contracts of chapter 11's ServerIn and HelloIn, the specification's, and what they answer in plain words. -/
import Derived.Test.YtlecpjgeaigjkaaCert10
import Derived.Laws.ResultCell
namespace Go.Proofs.Ytlecpjgeaigjkaa
open Go.RowKit
set_option linter.unusedVariables false
/-- Is a term an Atom that not all know? -/
def nonB (ns : List Nd) (x : Int) : Bool := isK ns x 1 && decide (1000 ≤ numV ns x)
def srvB (ns : List Nd) (k : Int) : Bool := partsB ns k 3 && (numIs ns (p3 ns k 0) 62 && (nonB ns (p3 ns k 1) && isK ns (p3 ns k 2) 6))
def srvN (ns : List Nd) (k : Int) : Int := if srvB ns k = true then p3 ns k 1 else -1
def srvP (ns : List Nd) (k : Int) : Int := if srvB ns k = true then p3 ns k 2 else -1
def p5 (ns : List Nd) (k : Int) (i : Nat) : Int := (partsV ns k 5).getD i 0
def helB (ns : List Nd) (k : Int) : Bool := partsB ns k 5 && (numIs ns (p5 ns k 0) 61 && (nonB ns (p5 ns k 3) && (isK ns (p5 ns k 4) 6 && (isK ns (p5 ns k 1) 1 && (isK ns (p5 ns k 2) 1 && (inB (numV ns (p5 ns k 1)) 1 2 && inB (numV ns (p5 ns k 2)) 0 9))))))
def helM (ns : List Nd) (k : Int) : Int := if helB ns k = true then numV ns (p5 ns k 1) else 0
def helN (ns : List Nd) (k : Int) : Int := if helB ns k = true then numV ns (p5 ns k 2) else 0
def helO (ns : List Nd) (k : Int) : Int := if helB ns k = true then p5 ns k 3 else 0
def helP (ns : List Nd) (k : Int) : Int := if helB ns k = true then p5 ns k 4 else 0
theorem parts5 {ns : List Nd} {k : Int} (h : partsB ns k 5 = true) : (partsV ns k 5).length = 5 := by
  unfold partsB at h
  unfold partsV
  cases hp : partsR ns k 5 with
  | none => rw [hp] at h; simp at h
  | some xs =>
    unfold partsR at hp
    rw [if_neg (by omega)] at hp
    exact (partsN_len ns 5 k xs hp).1
theorem own5 {B : Nat} {w : World} {v : Value} {xs : List Int} (h : OwnInt B w v xs) (hl : xs.length = 5) : ∃ g off cap, v = .slice (some ⟨g, off, none⟩) 5 cap ∧ g < w.heap.size ∧ ∀ i, i < 5 → w.cell? ⟨g, off + i, none⟩ = some (.int .i64 (xs.getD i 0)) := by
  obtain ⟨a, cap, rfl, -, hr⟩ := h.row
  rcases hr with h0 | ⟨b, off, rfl, hb, hc⟩
  · rw [h0] at hl; simp at hl
  · rw [hl]
    exact ⟨b, off, cap, rfl, hb, fun i hi => hc i (by omega)⟩
set_option maxHeartbeats 1600000 in
theorem specNonce_any (a : Option Addr) (cap : Nat) (ns : List Nd) (x : Int) (w : World) (hl : ns.length ≤ 1048576) (hr : RowN w.heap.size w a ns) :
    Calls Try.prog 62 #[.agg #[.slice a ns.length cap], .int .i64 x] w fun e w' => e = .returned (.bool (nonB ns x)) ∧ Below w.heap.size w w' := by
  have hb0 : Below w.heap.size w (w.alloc (.cells #[.slice a ns.length cap] 30)) := (Below.refl _ _).alloc (Nat.le_refl _) _
  have H : Hid _ := specNum_any a cap ns x _ hl (hr.grown hb0)
  have HB0 : Hid (Below w.heap.size w (w.alloc (.cells #[.slice a ns.length cap] 30))) := hb0
  unfold nonB
  generalize numV ns x = m at H ⊢
  have hs0 : (w.alloc (.cells #[.slice a ns.length cap] 30)).heap.size = w.heap.size + 1 := by simp
  cases hk : isK ns x 1 with
  | false =>
    rw [hk] at H
    clear hr hb0
    go_enter Try.func62, Try.ntmps62
    go_wp2_with fail
    refine Calls.mono H.out ?_
    rintro e w1 ⟨rfl, hb1⟩
    have HB : Hid (Below w.heap.size w w1) := HB0.out.trans (hb1.mono (by omega))
    clear hb1 H
    go_wp2
    go_ret
    exact ⟨rfl, HB.out⟩
  | true =>
    rw [hk] at H
    clear hr hb0
    go_enter Try.func62, Try.ntmps62
    go_wp2_with fail
    refine Calls.mono H.out ?_
    rintro e w1 ⟨rfl, hb1⟩
    have HB : Hid (Below w.heap.size w w1) := HB0.out.trans (hb1.mono (by omega))
    clear hb1 H
    go_wp2
    go_ret
    exact ⟨rfl, HB.out⟩
theorem helloSize : (Try.prog.info? 34).map (·.size) = some 4 := by kernel_rfl
theorem store4h {w : World} {g : Nat} {u0 u1 u2 u3 : Value} (h : w.heap[g]? = some (.cells #[u0, u1, u2, u3] 34 (0, 0))) (v0 v1 v2 v3 : Value) :
    ((((w.setCell ⟨g, 0, none⟩ v0).setCell ⟨g, 1, none⟩ v1).setCell ⟨g, 2, none⟩ v2).setCell ⟨g, 3, none⟩ v3).heap[g]? = some (.cells #[v0, v1, v2, v3] 34 (0, 0)) := by
  have h0 := heap_setCell_same w g 0 _ _ v0 h
  have h1 := heap_setCell_same _ g 1 _ _ v1 h0
  have h2 := heap_setCell_same _ g 2 _ _ v2 h1
  have h3 := heap_setCell_same _ g 3 _ _ v3 h2
  exact h3.trans (by rfl)
set_option maxHeartbeats 3200000 in
set_option maxRecDepth 20000 in
theorem specHelloIn_any (a : Option Addr) (cap : Nat) (ns : List Nd) (k : Int) (w : World) (hl : ns.length ≤ 1048576) (hr : RowN w.heap.size w a ns) :
    Calls Try.prog 27 #[.agg #[.slice a ns.length cap], .int .i64 k] w fun e w' => e = .returned (.tuple #[.agg #[.int .i64 (helM ns k), .int .i64 (helN ns k), .int .i64 (helO ns k), .int .i64 (helP ns k)], .bool (helB ns k)]) ∧ Below w.heap.size w w' := by
  have hb0 : Below w.heap.size w ((w.alloc (.cells #[.slice a ns.length cap] 30)).alloc (.cells #[.int .i64 0, .int .i64 0, .int .i64 0, .int .i64 0] 34)) := ((Below.refl _ _).alloc (Nat.le_refl _) _).alloc (by simp) _
  have hA0 : ((w.alloc (.cells #[.slice a ns.length cap] 30)).alloc (.cells #[.int .i64 0, .int .i64 0, .int .i64 0, .int .i64 0] 34)).heap[w.heap.size]? = some (.cells #[.slice a ns.length cap] 30 (0, 0)) := (heap_alloc_old _ _ (by simp)).trans (heap_alloc_new w _)
  have hN0 : ((w.alloc (.cells #[.slice a ns.length cap] 30)).alloc (.cells #[.int .i64 0, .int .i64 0, .int .i64 0, .int .i64 0] 34)).heap[w.heap.size + 1]? = some (.cells #[.int .i64 0, .int .i64 0, .int .i64 0, .int .i64 0] 34 (0, 0)) := by
    have := heap_alloc_new (w.alloc (.cells #[.slice a ns.length cap] 30)) (.cells #[.int .i64 0, .int .i64 0, .int .i64 0, .int .i64 0] 34)
    simpa using this
  have hs0 : ((w.alloc (.cells #[.slice a ns.length cap] 30)).alloc (.cells #[.int .i64 0, .int .i64 0, .int .i64 0, .int .i64 0] 34)).heap.size = w.heap.size + 2 := by simp
  have HR : Hid (RowN w.heap.size w a ns) := hr
  have HP : Hid _ := specParts_any a cap ns k 5 _ hl (hr.grown hb0)
  obtain ⟨E1, E2, E3, E4, G, HEF, h1, h2, h3, h4, hG⟩ : ∃ E1 E2 E3 E4 G, Hid (E1 = helM ns k ∧ E2 = helN ns k ∧ E3 = helO ns k ∧ E4 = helP ns k ∧ G = helB ns k) ∧ E1 = helM ns k ∧ E2 = helN ns k ∧ E3 = helO ns k ∧ E4 = helP ns k ∧ G = helB ns k := ⟨_, _, _, _, _, ⟨rfl, rfl, rfl, rfl, rfl⟩, rfl, rfl, rfl, rfl, rfl⟩
  rw [← h1, ← h2, ← h3, ← h4, ← hG]
  clear h1 h2 h3 h4 hG hr
  have HNO : Hid (helB ns k = false → E1 = 0 ∧ E2 = 0 ∧ E3 = 0 ∧ E4 = 0 ∧ G = false) := fun hz => by
    obtain ⟨e1, e2, e3, e4, e5⟩ := HEF.out
    rw [e1, e2, e3, e4, e5]
    refine ⟨?_, ?_, ?_, ?_, hz⟩
    · unfold helM; rw [hz]; rfl
    · unfold helN; rw [hz]; rfl
    · unfold helO; rw [hz]; rfl
    · unfold helP; rw [hz]; rfl
  have HYES : Hid (helB ns k = true → E1 = numV ns (p5 ns k 1) ∧ E2 = numV ns (p5 ns k 2) ∧ E3 = p5 ns k 3 ∧ E4 = p5 ns k 4 ∧ G = true) := fun hz => by
    obtain ⟨e1, e2, e3, e4, e5⟩ := HEF.out
    rw [e1, e2, e3, e4, e5]
    refine ⟨?_, ?_, ?_, ?_, hz⟩
    · unfold helM; rw [hz]; rfl
    · unfold helN; rw [hz]; rfl
    · unfold helO; rw [hz]; rfl
    · unfold helP; rw [hz]; rfl
  obtain ⟨d2, HD2⟩ : ∃ d, Hid (partsB ns k 5 = d) := ⟨_, rfl⟩
  go_enter Try.func27, Try.ntmps27
  go_wp2_with fail
  refine Calls.mono HP.out ?_
  rintro e w1 ⟨v, rfl, hown, hb1⟩
  rw [HD2.out]
  have hA1 := (hb1.block w.heap.size (by omega)).trans hA0
  have hN1 := (hb1.block (w.heap.size + 1) (by omega)).trans hN0
  have c0 : w1.cell? ⟨w.heap.size, 0, none⟩ = some (.slice a ns.length cap) := (cell_of_row w1 _ 0 _ _ _ hA1).trans rfl
  have HB1 : Hid (Below w.heap.size w w1) := hb0.trans (hb1.mono (by omega))
  have hsz1 : w.heap.size < w1.heap.size := (Array.getElem?_eq_some_iff.1 hA1).1
  have hszN : w.heap.size + 1 < w1.heap.size := (Array.getElem?_eq_some_iff.1 hN1).1
  obtain ⟨S, hS0, hNE, HK⟩ := read_class w1
  have k0 := HK.out.1 _ _ hsz1 c0
  have HB : Hid (∀ s : Hw S, Below w.heap.size w s.w) := fun s => HB1.out.trans ((HK.out.2.2.2 s).mono HB1.out.size)
  have HRS : Hid (∀ s : Hw S, RowN s.w.heap.size s.w a ns) := fun s => HR.out.grown (HB.out s)
  have hkk : ∀ (s : Hw S) w', Below s.w.heap.size s.w w' → S w' := HK.out.2.1
  have HDR : Hid (∀ s : Hw S, S s.w.drew) := fun s => HK.out.2.1 s _ (Below.refl _ _).drew
  have HNB : Hid (∀ s : Hw S, s.w.heap[w.heap.size + 1]? = some (.cells #[.int .i64 0, .int .i64 0, .int .i64 0, .int .i64 0] 34 (0, 0))) := fun s => ((HK.out.2.2.2 s).block _ hszN).trans hN1
  clear HP hb1 hA1 hN1 c0 HB1 hsz1 hb0 hA0 hN0 HR HEF
  cases d2
  · have HZ : Hid (helB ns k = false) := by show _ = _; unfold helB; rw [HD2.out]; rfl
    obtain ⟨a9, c9, rfl, -, -⟩ := hown.row
    clear HK hown
    go_wp2_with fail
    refine wp_region_held (S := S) (by kernel_rfl) (by kernel_rfl) hS0 ?_
    try simp only [List.append_eq, List.cons_append, List.nil_append]
    repeat (go_big_quiet_step (first | fail))
    refine wpQuiet_nil ?_
    rintro _ ⟨sw, rfl⟩
    have hN : sw.w.heap[w.heap.size + 1]? = _ := HNB.out sw
    have n0 : sw.w.cell? ⟨w.heap.size + 1, 0, none⟩ = some (.int .i64 0) := (cell_of_row _ _ 0 _ _ _ hN).trans rfl
    have n1 : sw.w.cell? ⟨w.heap.size + 1, 1, none⟩ = some (.int .i64 0) := (cell_of_row _ _ 1 _ _ _ hN).trans rfl
    have n2 : sw.w.cell? ⟨w.heap.size + 1, 2, none⟩ = some (.int .i64 0) := (cell_of_row _ _ 2 _ _ _ hN).trans rfl
    have n3 : sw.w.cell? ⟨w.heap.size + 1, 3, none⟩ = some (.int .i64 0) := (cell_of_row _ _ 3 _ _ _ hN).trans rfl
    have fz0 : sw.w.frozen? ⟨w.heap.size + 1, 0, none⟩ = false := frozen_of_row _ _ 0 _ _ hN
    have fz1 : sw.w.frozen? ⟨w.heap.size + 1, 1, none⟩ = false := frozen_of_row _ _ 1 _ _ hN
    have fz2 : sw.w.frozen? ⟨w.heap.size + 1, 2, none⟩ = false := frozen_of_row _ _ 2 _ _ hN
    have fz3 : sw.w.frozen? ⟨w.heap.size + 1, 3, none⟩ = false := frozen_of_row _ _ 3 _ _ hN
    have HBL : Hid _ := store4h hN (.int .i64 0) (.int .i64 0) (.int .i64 0) (.int .i64 0)
    have HE2 : Hid _ := below4 (g := w.heap.size + 1) (HB.out sw) (by omega) (.int .i64 0) (.int .i64 0) (.int .i64 0) (.int .i64 0)
    clear hN HB HNB
    go_wp2
    refine bodyPost_ret (res_cell2 rfl _ _ (w.heap.size + 1) 34 #[.int .i64 0, .int .i64 0, .int .i64 0, .int .i64 0] (0, 0) _ rfl ?_ Try.underlying34 rfl helloSize) rfl ?_
    · exact HBL.out
    · obtain ⟨e1, e2, e3, e4, e5⟩ := HNO.out (HZ.out)
      exact ⟨by rw [e1, e2, e3, e4, e5]; rfl, HE2.out⟩
  · obtain ⟨gp, o3, cp, rfl, hgp, q⟩ := own5 hown (parts5 HD2.out)
    obtain ⟨x0, HX0⟩ : ∃ x, Hid (p5 ns k 0 = x) := ⟨_, rfl⟩
    obtain ⟨x1, HX1⟩ : ∃ x, Hid (p5 ns k 1 = x) := ⟨_, rfl⟩
    obtain ⟨x2, HX2⟩ : ∃ x, Hid (p5 ns k 2 = x) := ⟨_, rfl⟩
    obtain ⟨x3, HX3⟩ : ∃ x, Hid (p5 ns k 3 = x) := ⟨_, rfl⟩
    obtain ⟨x4, HX4⟩ : ∃ x, Hid (p5 ns k 4 = x) := ⟨_, rfl⟩
    have q0 : w1.cell? ⟨gp, o3, none⟩ = some (.int .i64 x0) := by have := q 0 (by omega); rw [show (partsV ns k 5).getD 0 0 = x0 from HX0.out] at this; exact this
    have k1 := HK.out.1 _ _ (show (⟨gp, o3, none⟩ : Addr).block < _ from hgp) q0
    have q1 : w1.cell? ⟨gp, o3 + 1, none⟩ = some (.int .i64 x1) := by have := q 1 (by omega); rw [show (partsV ns k 5).getD 1 0 = x1 from HX1.out] at this; exact this
    have k2 := HK.out.1 _ _ (show (⟨gp, o3 + 1, none⟩ : Addr).block < _ from hgp) q1
    have q2 : w1.cell? ⟨gp, o3 + 2, none⟩ = some (.int .i64 x2) := by have := q 2 (by omega); rw [show (partsV ns k 5).getD 2 0 = x2 from HX2.out] at this; exact this
    have k3 := HK.out.1 _ _ (show (⟨gp, o3 + 2, none⟩ : Addr).block < _ from hgp) q2
    have q3 : w1.cell? ⟨gp, o3 + 3, none⟩ = some (.int .i64 x3) := by have := q 3 (by omega); rw [show (partsV ns k 5).getD 3 0 = x3 from HX3.out] at this; exact this
    have k4 := HK.out.1 _ _ (show (⟨gp, o3 + 3, none⟩ : Addr).block < _ from hgp) q3
    have q4 : w1.cell? ⟨gp, o3 + 4, none⟩ = some (.int .i64 x4) := by have := q 4 (by omega); rw [show (partsV ns k 5).getD 4 0 = x4 from HX4.out] at this; exact this
    have k5 := HK.out.1 _ _ (show (⟨gp, o3 + 4, none⟩ : Addr).block < _ from hgp) q4
    obtain ⟨d3, HD3⟩ : ∃ d, Hid (numIs ns x0 61 = d) := ⟨_, rfl⟩
    obtain ⟨d4, HD4⟩ : ∃ d, Hid (nonB ns x3 = d) := ⟨_, rfl⟩
    obtain ⟨d5, HD5⟩ : ∃ d, Hid (isK ns x4 6 = d) := ⟨_, rfl⟩
    obtain ⟨d6, HD6⟩ : ∃ d, Hid (isK ns x1 1 = d) := ⟨_, rfl⟩
    obtain ⟨d7, HD7⟩ : ∃ d, Hid (isK ns x2 1 = d) := ⟨_, rfl⟩
    obtain ⟨m1, HM1⟩ : ∃ m, Hid (numV ns x1 = m) := ⟨_, rfl⟩
    obtain ⟨m2, HM2⟩ : ∃ m, Hid (numV ns x2 = m) := ⟨_, rfl⟩
    obtain ⟨d8, HD8⟩ : ∃ d, Hid (inB m1 1 2 = d) := ⟨_, rfl⟩
    obtain ⟨d9, HD9⟩ : ∃ d, Hid (inB m2 0 9 = d) := ⟨_, rfl⟩
    have HZZ : Hid (helB ns k = (d3 && (d4 && (d5 && (d6 && (d7 && (d8 && d9))))))) := by show _ = _; unfold helB; rw [HD2.out, HX0.out, HX1.out, HX2.out, HX3.out, HX4.out, HD3.out, HD4.out, HD5.out, HD6.out, HD7.out, HM1.out, HM2.out, HD8.out, HD9.out]; rfl
    rw [HX1.out, HX2.out, HX3.out, HX4.out, HM1.out, HM2.out] at HYES
    have HC3 : Hid (∀ (w' : World), RowN w'.heap.size w' a ns → Calls Try.prog 61 #[.agg #[.slice a ns.length cap], .int .i64 x0, .int .i64 61] w' fun e w'' => e = .returned (.bool d3) ∧ Below w'.heap.size w' w'') := fun w' h => by have := specNumIs_any a cap ns x0 61 w' hl h; rw [HD3.out] at this; exact this
    have HC4 : Hid (∀ (w' : World), RowN w'.heap.size w' a ns → Calls Try.prog 62 #[.agg #[.slice a ns.length cap], .int .i64 x3] w' fun e w'' => e = .returned (.bool d4) ∧ Below w'.heap.size w' w'') := fun w' h => by have := specNonce_any a cap ns x3 w' hl h; rw [HD4.out] at this; exact this
    have HC5 : Hid (∀ (w' : World), RowN w'.heap.size w' a ns → Calls Try.prog 63 #[.agg #[.slice a ns.length cap], .int .i64 x4, .int .i64 6] w' fun e w'' => e = .returned (.bool d5) ∧ Below w'.heap.size w' w'') := fun w' h => by have := specIs_any a cap ns x4 6 w' hl h; rw [HD5.out] at this; exact this
    have HC6 : Hid (∀ (w' : World), RowN w'.heap.size w' a ns → Calls Try.prog 64 #[.agg #[.slice a ns.length cap], .int .i64 x1] w' fun e w'' => e = .returned (.tuple #[.int .i64 m1, .bool d6]) ∧ Below w'.heap.size w' w'') := fun w' h => by have := specNum_any a cap ns x1 w' hl h; rw [HD6.out, HM1.out] at this; exact this
    have HC7 : Hid (∀ (w' : World), RowN w'.heap.size w' a ns → Calls Try.prog 64 #[.agg #[.slice a ns.length cap], .int .i64 x2] w' fun e w'' => e = .returned (.tuple #[.int .i64 m2, .bool d7]) ∧ Below w'.heap.size w' w'') := fun w' h => by have := specNum_any a cap ns x2 w' hl h; rw [HD7.out, HM2.out] at this; exact this
    clear q q0 q1 q2 q3 q4 hown HX0 HX1 HX2 HX3 HX4 HD3 HD4 HD5 HD6 HD7 HM1 HM2 HK
    cases d3
    · go_wp2_with fail
      refine wp_region_held (S := S) (by kernel_rfl) (by kernel_rfl) hS0 ?_
      try simp only [List.append_eq, List.cons_append, List.nil_append]
      repeat (go_big_quiet_step (first | (go_at_call 61; exact Calls.held (HC3.out _ (HRS.out _)) (hkk _)) | (go_at_call 62; exact Calls.held (HC4.out _ (HRS.out _)) (hkk _)) | (go_at_call 63; exact Calls.held (HC5.out _ (HRS.out _)) (hkk _))))
      refine wpQuiet_nil ?_
      rintro _ ⟨sw, rfl⟩
      have hN : sw.w.heap[w.heap.size + 1]? = _ := HNB.out sw
      have n0 : sw.w.cell? ⟨w.heap.size + 1, 0, none⟩ = some (.int .i64 0) := (cell_of_row _ _ 0 _ _ _ hN).trans rfl
      have n1 : sw.w.cell? ⟨w.heap.size + 1, 1, none⟩ = some (.int .i64 0) := (cell_of_row _ _ 1 _ _ _ hN).trans rfl
      have n2 : sw.w.cell? ⟨w.heap.size + 1, 2, none⟩ = some (.int .i64 0) := (cell_of_row _ _ 2 _ _ _ hN).trans rfl
      have n3 : sw.w.cell? ⟨w.heap.size + 1, 3, none⟩ = some (.int .i64 0) := (cell_of_row _ _ 3 _ _ _ hN).trans rfl
      have fz0 : sw.w.frozen? ⟨w.heap.size + 1, 0, none⟩ = false := frozen_of_row _ _ 0 _ _ hN
      have fz1 : sw.w.frozen? ⟨w.heap.size + 1, 1, none⟩ = false := frozen_of_row _ _ 1 _ _ hN
      have fz2 : sw.w.frozen? ⟨w.heap.size + 1, 2, none⟩ = false := frozen_of_row _ _ 2 _ _ hN
      have fz3 : sw.w.frozen? ⟨w.heap.size + 1, 3, none⟩ = false := frozen_of_row _ _ 3 _ _ hN
      have HBL : Hid _ := store4h hN (.int .i64 0) (.int .i64 0) (.int .i64 0) (.int .i64 0)
      have HE2 : Hid _ := below4 (g := w.heap.size + 1) (HB.out sw) (by omega) (.int .i64 0) (.int .i64 0) (.int .i64 0) (.int .i64 0)
      clear hN HB HNB
      go_wp2
      refine bodyPost_ret (res_cell2 rfl _ _ (w.heap.size + 1) 34 #[.int .i64 0, .int .i64 0, .int .i64 0, .int .i64 0] (0, 0) _ rfl ?_ Try.underlying34 rfl helloSize) rfl ?_
      · exact HBL.out
      · obtain ⟨e1, e2, e3, e4, e5⟩ := HNO.out (by rw [HZZ.out]; first | rfl | simp)
        exact ⟨by rw [e1, e2, e3, e4, e5]; rfl, HE2.out⟩
    cases d4
    · go_wp2_with fail
      refine wp_region_held (S := S) (by kernel_rfl) (by kernel_rfl) hS0 ?_
      try simp only [List.append_eq, List.cons_append, List.nil_append]
      repeat (go_big_quiet_step (first | (go_at_call 61; exact Calls.held (HC3.out _ (HRS.out _)) (hkk _)) | (go_at_call 62; exact Calls.held (HC4.out _ (HRS.out _)) (hkk _)) | (go_at_call 63; exact Calls.held (HC5.out _ (HRS.out _)) (hkk _))))
      refine wpQuiet_nil ?_
      rintro _ ⟨sw, rfl⟩
      have hN : sw.w.heap[w.heap.size + 1]? = _ := HNB.out sw
      have n0 : sw.w.cell? ⟨w.heap.size + 1, 0, none⟩ = some (.int .i64 0) := (cell_of_row _ _ 0 _ _ _ hN).trans rfl
      have n1 : sw.w.cell? ⟨w.heap.size + 1, 1, none⟩ = some (.int .i64 0) := (cell_of_row _ _ 1 _ _ _ hN).trans rfl
      have n2 : sw.w.cell? ⟨w.heap.size + 1, 2, none⟩ = some (.int .i64 0) := (cell_of_row _ _ 2 _ _ _ hN).trans rfl
      have n3 : sw.w.cell? ⟨w.heap.size + 1, 3, none⟩ = some (.int .i64 0) := (cell_of_row _ _ 3 _ _ _ hN).trans rfl
      have fz0 : sw.w.frozen? ⟨w.heap.size + 1, 0, none⟩ = false := frozen_of_row _ _ 0 _ _ hN
      have fz1 : sw.w.frozen? ⟨w.heap.size + 1, 1, none⟩ = false := frozen_of_row _ _ 1 _ _ hN
      have fz2 : sw.w.frozen? ⟨w.heap.size + 1, 2, none⟩ = false := frozen_of_row _ _ 2 _ _ hN
      have fz3 : sw.w.frozen? ⟨w.heap.size + 1, 3, none⟩ = false := frozen_of_row _ _ 3 _ _ hN
      have HBL : Hid _ := store4h hN (.int .i64 0) (.int .i64 0) (.int .i64 0) (.int .i64 0)
      have HE2 : Hid _ := below4 (g := w.heap.size + 1) (HB.out sw) (by omega) (.int .i64 0) (.int .i64 0) (.int .i64 0) (.int .i64 0)
      clear hN HB HNB
      go_wp2
      refine bodyPost_ret (res_cell2 rfl _ _ (w.heap.size + 1) 34 #[.int .i64 0, .int .i64 0, .int .i64 0, .int .i64 0] (0, 0) _ rfl ?_ Try.underlying34 rfl helloSize) rfl ?_
      · exact HBL.out
      · obtain ⟨e1, e2, e3, e4, e5⟩ := HNO.out (by rw [HZZ.out]; first | rfl | simp)
        exact ⟨by rw [e1, e2, e3, e4, e5]; rfl, HE2.out⟩
    cases d5
    · go_wp2_with fail
      refine wp_region_held (S := S) (by kernel_rfl) (by kernel_rfl) hS0 ?_
      try simp only [List.append_eq, List.cons_append, List.nil_append]
      repeat (go_big_quiet_step (first | (go_at_call 61; exact Calls.held (HC3.out _ (HRS.out _)) (hkk _)) | (go_at_call 62; exact Calls.held (HC4.out _ (HRS.out _)) (hkk _)) | (go_at_call 63; exact Calls.held (HC5.out _ (HRS.out _)) (hkk _))))
      refine wpQuiet_nil ?_
      rintro _ ⟨sw, rfl⟩
      have hN : sw.w.heap[w.heap.size + 1]? = _ := HNB.out sw
      have n0 : sw.w.cell? ⟨w.heap.size + 1, 0, none⟩ = some (.int .i64 0) := (cell_of_row _ _ 0 _ _ _ hN).trans rfl
      have n1 : sw.w.cell? ⟨w.heap.size + 1, 1, none⟩ = some (.int .i64 0) := (cell_of_row _ _ 1 _ _ _ hN).trans rfl
      have n2 : sw.w.cell? ⟨w.heap.size + 1, 2, none⟩ = some (.int .i64 0) := (cell_of_row _ _ 2 _ _ _ hN).trans rfl
      have n3 : sw.w.cell? ⟨w.heap.size + 1, 3, none⟩ = some (.int .i64 0) := (cell_of_row _ _ 3 _ _ _ hN).trans rfl
      have fz0 : sw.w.frozen? ⟨w.heap.size + 1, 0, none⟩ = false := frozen_of_row _ _ 0 _ _ hN
      have fz1 : sw.w.frozen? ⟨w.heap.size + 1, 1, none⟩ = false := frozen_of_row _ _ 1 _ _ hN
      have fz2 : sw.w.frozen? ⟨w.heap.size + 1, 2, none⟩ = false := frozen_of_row _ _ 2 _ _ hN
      have fz3 : sw.w.frozen? ⟨w.heap.size + 1, 3, none⟩ = false := frozen_of_row _ _ 3 _ _ hN
      have HBL : Hid _ := store4h hN (.int .i64 0) (.int .i64 0) (.int .i64 0) (.int .i64 0)
      have HE2 : Hid _ := below4 (g := w.heap.size + 1) (HB.out sw) (by omega) (.int .i64 0) (.int .i64 0) (.int .i64 0) (.int .i64 0)
      clear hN HB HNB
      go_wp2
      refine bodyPost_ret (res_cell2 rfl _ _ (w.heap.size + 1) 34 #[.int .i64 0, .int .i64 0, .int .i64 0, .int .i64 0] (0, 0) _ rfl ?_ Try.underlying34 rfl helloSize) rfl ?_
      · exact HBL.out
      · obtain ⟨e1, e2, e3, e4, e5⟩ := HNO.out (by rw [HZZ.out]; first | rfl | simp)
        exact ⟨by rw [e1, e2, e3, e4, e5]; rfl, HE2.out⟩
    go_wp2_with fail
    refine wp_region_held (S := S) (by kernel_rfl) (by kernel_rfl) hS0 ?_
    try simp only [List.append_eq, List.cons_append, List.nil_append]
    repeat (go_big_quiet_step (first | (go_at_call 61; exact Calls.held (HC3.out _ (HRS.out _)) (hkk _)) | (go_at_call 62; exact Calls.held (HC4.out _ (HRS.out _)) (hkk _)) | (go_at_call 63; exact Calls.held (HC5.out _ (HRS.out _)) (hkk _))))
    refine wpQuiet_nil ?_
    rintro _ ⟨sw, rfl⟩
    go_wp2_with fail
    refine wp_region_held (S := S) (by kernel_rfl) (by kernel_rfl) (HDR.out _) ?_
    try simp only [List.append_eq, List.cons_append, List.nil_append]
    repeat (go_big_quiet_step (first | (go_at_call 64; exact Calls.held (HC6.out _ (HRS.out _)) (hkk _))))
    refine wpQuiet_nil ?_
    rintro _ ⟨sw2, rfl⟩
    go_wp2_with fail
    refine wp_region_held (S := S) (by kernel_rfl) (by kernel_rfl) (HDR.out _) ?_
    try simp only [List.append_eq, List.cons_append, List.nil_append]
    repeat (go_big_quiet_step (first | (go_at_call 64; exact Calls.held (HC7.out _ (HRS.out _)) (hkk _))))
    refine wpQuiet_nil ?_
    rintro _ ⟨sw3, rfl⟩
    cases d6
    · have hN : sw3.w.heap[w.heap.size + 1]? = _ := HNB.out sw3
      have n0 : sw3.w.cell? ⟨w.heap.size + 1, 0, none⟩ = some (.int .i64 0) := (cell_of_row _ _ 0 _ _ _ hN).trans rfl
      have n1 : sw3.w.cell? ⟨w.heap.size + 1, 1, none⟩ = some (.int .i64 0) := (cell_of_row _ _ 1 _ _ _ hN).trans rfl
      have n2 : sw3.w.cell? ⟨w.heap.size + 1, 2, none⟩ = some (.int .i64 0) := (cell_of_row _ _ 2 _ _ _ hN).trans rfl
      have n3 : sw3.w.cell? ⟨w.heap.size + 1, 3, none⟩ = some (.int .i64 0) := (cell_of_row _ _ 3 _ _ _ hN).trans rfl
      have fz0 : sw3.w.frozen? ⟨w.heap.size + 1, 0, none⟩ = false := frozen_of_row _ _ 0 _ _ hN
      have fz1 : sw3.w.frozen? ⟨w.heap.size + 1, 1, none⟩ = false := frozen_of_row _ _ 1 _ _ hN
      have fz2 : sw3.w.frozen? ⟨w.heap.size + 1, 2, none⟩ = false := frozen_of_row _ _ 2 _ _ hN
      have fz3 : sw3.w.frozen? ⟨w.heap.size + 1, 3, none⟩ = false := frozen_of_row _ _ 3 _ _ hN
      have HBL : Hid _ := store4h hN (.int .i64 0) (.int .i64 0) (.int .i64 0) (.int .i64 0)
      have HE2 : Hid _ := below4 (g := w.heap.size + 1) (HB.out sw3) (by omega) (.int .i64 0) (.int .i64 0) (.int .i64 0) (.int .i64 0)
      clear hN HB HNB
      go_wp2
      refine bodyPost_ret (res_cell2 rfl _ _ (w.heap.size + 1) 34 #[.int .i64 0, .int .i64 0, .int .i64 0, .int .i64 0] (0, 0) _ rfl ?_ Try.underlying34 rfl helloSize) rfl ?_
      · exact HBL.out
      · obtain ⟨e1, e2, e3, e4, e5⟩ := HNO.out (by rw [HZZ.out]; first | rfl | simp)
        exact ⟨by rw [e1, e2, e3, e4, e5]; rfl, HE2.out⟩
    cases d7
    · have hN : sw3.w.heap[w.heap.size + 1]? = _ := HNB.out sw3
      have n0 : sw3.w.cell? ⟨w.heap.size + 1, 0, none⟩ = some (.int .i64 0) := (cell_of_row _ _ 0 _ _ _ hN).trans rfl
      have n1 : sw3.w.cell? ⟨w.heap.size + 1, 1, none⟩ = some (.int .i64 0) := (cell_of_row _ _ 1 _ _ _ hN).trans rfl
      have n2 : sw3.w.cell? ⟨w.heap.size + 1, 2, none⟩ = some (.int .i64 0) := (cell_of_row _ _ 2 _ _ _ hN).trans rfl
      have n3 : sw3.w.cell? ⟨w.heap.size + 1, 3, none⟩ = some (.int .i64 0) := (cell_of_row _ _ 3 _ _ _ hN).trans rfl
      have fz0 : sw3.w.frozen? ⟨w.heap.size + 1, 0, none⟩ = false := frozen_of_row _ _ 0 _ _ hN
      have fz1 : sw3.w.frozen? ⟨w.heap.size + 1, 1, none⟩ = false := frozen_of_row _ _ 1 _ _ hN
      have fz2 : sw3.w.frozen? ⟨w.heap.size + 1, 2, none⟩ = false := frozen_of_row _ _ 2 _ _ hN
      have fz3 : sw3.w.frozen? ⟨w.heap.size + 1, 3, none⟩ = false := frozen_of_row _ _ 3 _ _ hN
      have HBL : Hid _ := store4h hN (.int .i64 0) (.int .i64 0) (.int .i64 0) (.int .i64 0)
      have HE2 : Hid _ := below4 (g := w.heap.size + 1) (HB.out sw3) (by omega) (.int .i64 0) (.int .i64 0) (.int .i64 0) (.int .i64 0)
      clear hN HB HNB
      go_wp2
      refine bodyPost_ret (res_cell2 rfl _ _ (w.heap.size + 1) 34 #[.int .i64 0, .int .i64 0, .int .i64 0, .int .i64 0] (0, 0) _ rfl ?_ Try.underlying34 rfl helloSize) rfl ?_
      · exact HBL.out
      · obtain ⟨e1, e2, e3, e4, e5⟩ := HNO.out (by rw [HZZ.out]; first | rfl | simp)
        exact ⟨by rw [e1, e2, e3, e4, e5]; rfl, HE2.out⟩
    cases d8
    · have hN : sw3.w.heap[w.heap.size + 1]? = _ := HNB.out sw3
      have n0 : sw3.w.cell? ⟨w.heap.size + 1, 0, none⟩ = some (.int .i64 0) := (cell_of_row _ _ 0 _ _ _ hN).trans rfl
      have n1 : sw3.w.cell? ⟨w.heap.size + 1, 1, none⟩ = some (.int .i64 0) := (cell_of_row _ _ 1 _ _ _ hN).trans rfl
      have n2 : sw3.w.cell? ⟨w.heap.size + 1, 2, none⟩ = some (.int .i64 0) := (cell_of_row _ _ 2 _ _ _ hN).trans rfl
      have n3 : sw3.w.cell? ⟨w.heap.size + 1, 3, none⟩ = some (.int .i64 0) := (cell_of_row _ _ 3 _ _ _ hN).trans rfl
      have fz0 : sw3.w.frozen? ⟨w.heap.size + 1, 0, none⟩ = false := frozen_of_row _ _ 0 _ _ hN
      have fz1 : sw3.w.frozen? ⟨w.heap.size + 1, 1, none⟩ = false := frozen_of_row _ _ 1 _ _ hN
      have fz2 : sw3.w.frozen? ⟨w.heap.size + 1, 2, none⟩ = false := frozen_of_row _ _ 2 _ _ hN
      have fz3 : sw3.w.frozen? ⟨w.heap.size + 1, 3, none⟩ = false := frozen_of_row _ _ 3 _ _ hN
      have HBL : Hid _ := store4h hN (.int .i64 0) (.int .i64 0) (.int .i64 0) (.int .i64 0)
      have HE2 : Hid _ := below4 (g := w.heap.size + 1) (HB.out sw3) (by omega) (.int .i64 0) (.int .i64 0) (.int .i64 0) (.int .i64 0)
      clear hN HB HNB
      go_wp2_with (go_at_call 65; refine (specIn_any _ _ _ _).mono ?_; rintro e w' ⟨rfl, rfl⟩; first | rw [HD8.out] | rw [HD9.out])
      refine bodyPost_ret (res_cell2 rfl _ _ (w.heap.size + 1) 34 #[.int .i64 0, .int .i64 0, .int .i64 0, .int .i64 0] (0, 0) _ rfl ?_ Try.underlying34 rfl helloSize) rfl ?_
      · exact HBL.out
      · obtain ⟨e1, e2, e3, e4, e5⟩ := HNO.out (by rw [HZZ.out]; first | rfl | simp)
        exact ⟨by rw [e1, e2, e3, e4, e5]; rfl, HE2.out⟩
    cases d9
    · have hN : sw3.w.heap[w.heap.size + 1]? = _ := HNB.out sw3
      have n0 : sw3.w.cell? ⟨w.heap.size + 1, 0, none⟩ = some (.int .i64 0) := (cell_of_row _ _ 0 _ _ _ hN).trans rfl
      have n1 : sw3.w.cell? ⟨w.heap.size + 1, 1, none⟩ = some (.int .i64 0) := (cell_of_row _ _ 1 _ _ _ hN).trans rfl
      have n2 : sw3.w.cell? ⟨w.heap.size + 1, 2, none⟩ = some (.int .i64 0) := (cell_of_row _ _ 2 _ _ _ hN).trans rfl
      have n3 : sw3.w.cell? ⟨w.heap.size + 1, 3, none⟩ = some (.int .i64 0) := (cell_of_row _ _ 3 _ _ _ hN).trans rfl
      have fz0 : sw3.w.frozen? ⟨w.heap.size + 1, 0, none⟩ = false := frozen_of_row _ _ 0 _ _ hN
      have fz1 : sw3.w.frozen? ⟨w.heap.size + 1, 1, none⟩ = false := frozen_of_row _ _ 1 _ _ hN
      have fz2 : sw3.w.frozen? ⟨w.heap.size + 1, 2, none⟩ = false := frozen_of_row _ _ 2 _ _ hN
      have fz3 : sw3.w.frozen? ⟨w.heap.size + 1, 3, none⟩ = false := frozen_of_row _ _ 3 _ _ hN
      have HBL : Hid _ := store4h hN (.int .i64 0) (.int .i64 0) (.int .i64 0) (.int .i64 0)
      have HE2 : Hid _ := below4 (g := w.heap.size + 1) (HB.out sw3) (by omega) (.int .i64 0) (.int .i64 0) (.int .i64 0) (.int .i64 0)
      clear hN HB HNB
      go_wp2_with (go_at_call 65; refine (specIn_any _ _ _ _).mono ?_; rintro e w' ⟨rfl, rfl⟩; first | rw [HD8.out] | rw [HD9.out])
      refine bodyPost_ret (res_cell2 rfl _ _ (w.heap.size + 1) 34 #[.int .i64 0, .int .i64 0, .int .i64 0, .int .i64 0] (0, 0) _ rfl ?_ Try.underlying34 rfl helloSize) rfl ?_
      · exact HBL.out
      · obtain ⟨e1, e2, e3, e4, e5⟩ := HNO.out (by rw [HZZ.out]; first | rfl | simp)
        exact ⟨by rw [e1, e2, e3, e4, e5]; rfl, HE2.out⟩
    have hN : sw3.w.heap[w.heap.size + 1]? = _ := HNB.out sw3
    have n0 : sw3.w.cell? ⟨w.heap.size + 1, 0, none⟩ = some (.int .i64 0) := (cell_of_row _ _ 0 _ _ _ hN).trans rfl
    have n1 : sw3.w.cell? ⟨w.heap.size + 1, 1, none⟩ = some (.int .i64 0) := (cell_of_row _ _ 1 _ _ _ hN).trans rfl
    have n2 : sw3.w.cell? ⟨w.heap.size + 1, 2, none⟩ = some (.int .i64 0) := (cell_of_row _ _ 2 _ _ _ hN).trans rfl
    have n3 : sw3.w.cell? ⟨w.heap.size + 1, 3, none⟩ = some (.int .i64 0) := (cell_of_row _ _ 3 _ _ _ hN).trans rfl
    have fz0 : sw3.w.frozen? ⟨w.heap.size + 1, 0, none⟩ = false := frozen_of_row _ _ 0 _ _ hN
    have fz1 : sw3.w.frozen? ⟨w.heap.size + 1, 1, none⟩ = false := frozen_of_row _ _ 1 _ _ hN
    have fz2 : sw3.w.frozen? ⟨w.heap.size + 1, 2, none⟩ = false := frozen_of_row _ _ 2 _ _ hN
    have fz3 : sw3.w.frozen? ⟨w.heap.size + 1, 3, none⟩ = false := frozen_of_row _ _ 3 _ _ hN
    have nd0 : sw3.w.drew.cell? ⟨w.heap.size + 1, 0, none⟩ = some (.int .i64 0) := n0
    have nd1 : sw3.w.drew.cell? ⟨w.heap.size + 1, 1, none⟩ = some (.int .i64 0) := n1
    have nd2 : sw3.w.drew.cell? ⟨w.heap.size + 1, 2, none⟩ = some (.int .i64 0) := n2
    have nd3 : sw3.w.drew.cell? ⟨w.heap.size + 1, 3, none⟩ = some (.int .i64 0) := n3
    have fd0 : sw3.w.drew.frozen? ⟨w.heap.size + 1, 0, none⟩ = false := fz0
    have fd1 : sw3.w.drew.frozen? ⟨w.heap.size + 1, 1, none⟩ = false := fz1
    have fd2 : sw3.w.drew.frozen? ⟨w.heap.size + 1, 2, none⟩ = false := fz2
    have fd3 : sw3.w.drew.frozen? ⟨w.heap.size + 1, 3, none⟩ = false := fz3
    have HBL : Hid _ := store4h hN (.int .i64 m1) (.int .i64 m2) (.int .i64 x3) (.int .i64 x4)
    have HE2 : Hid _ := (below4 (g := w.heap.size + 1) (HB.out sw3) (by omega) (.int .i64 m1) (.int .i64 m2) (.int .i64 x3) (.int .i64 x4)).drew
    clear hN HB HNB
    have y3 : sw3.w.drew.cell? ⟨gp, o3 + 3, none⟩ = some (.int .i64 x3) := k4 sw3
    have y4 : sw3.w.drew.cell? ⟨gp, o3 + 4, none⟩ = some (.int .i64 x4) := k5 sw3
    go_wp2_with (go_at_call 65; refine (specIn_any _ _ _ _).mono ?_; rintro e w' ⟨rfl, rfl⟩; first | rw [HD8.out] | rw [HD9.out])
    refine wp_region_head 9 87 (by kernel_rfl) rfl (by kernel_rfl) ?_
    simp only [List.take_succ_cons, List.take_zero]
    repeat still_step
    refine wpStill_nil ?_
    show wpAny _ _ _ _ 2 _ _ _
    refine wpAny_ready (rs := [9]) (by kernel_rfl) (by simp) ?_
    refine AllReady.cons rfl (fun Kt hKt => ?_) AllReady.nil
    go_simp
    go_wp2_with fail
    refine wpAny_take (i := 10) (v := ?_) rfl (by kernel_rfl) (by kernel_rfl) (by kernel_rfl) (fun _ _ _ h => h) (Or.inl ⟨by rfl, ?_⟩) ?_
    rotate_left
    · intro w; go_simp; try with_reducible rfl
    refine wpAny_done (by kernel_rfl) ?_ _
    go_simp
    go_wp2
    refine bodyPost_ret (res_cell2 rfl _ _ (w.heap.size + 1) 34 #[.int .i64 m1, .int .i64 m2, .int .i64 x3, .int .i64 x4] (0, 0) _ rfl ?_ Try.underlying34 rfl helloSize) rfl ?_
    · exact HBL.out
    · obtain ⟨e1, e2, e3, e4, e5⟩ := HYES.out (by rw [HZZ.out]; rfl)
      exact ⟨by rw [e1, e2, e3, e4, e5]; rfl, HE2.out⟩
end Go.Proofs.Ytlecpjgeaigjkaa
