/- The contracts of chapter 4's l04Dh and DhOf, the specification's. -/
import Derived.Test.YtodpfdjlhbjlgaaMakeOrd
import Derived.WalkKit
import Derived.WalkLawsBesides
import Derived.WalkSpells
import Derived.Laws.Rows
namespace Go.Proofs.Ytodpfdjlhbjlgaa
open Go.RowKit Go.PlainAid
set_option linter.unusedVariables false
theorem dhP_no (B g : Nat) (ns : List Nd) (x pub : Int) (w : World) (hl : ns.length ≤ 1048576) (h : ArenaAt B w g ns) (hB : B ≤ w.heap.size) (hd : dhB ns x pub = false) :
    Calls Try.prog 106 #[.pointer (some ⟨g, 0, none⟩), .int .i64 x, .int .i64 pub] w fun e w' => e = .returned (.int .i64 (-1)) ∧ ArenaAt B w' g ns ∧ Below B w w' := by
  have h' := h
  obtain ⟨h1, h2, v, h3, h4, h5⟩ := h
  obtain ⟨a, cap, rfl, ha, hr⟩ := h4.row
  have c0 : w.cell? ⟨g, 0, none⟩ = some (.slice a ns.length cap) := (cell_of_row w g 0 _ _ _ h3).trans rfl
  have HA : Hid (ArenaAt B w g ns) := h'
  clear h3 h4 h5 ha h'
  cases h6 : isK ns pub 6 with
  | false =>
    have H6 : Hid _ := specIs_any a cap ns pub 6 w hl hr
    rw [h6] at H6
    clear hr hd h6
    go_enter Try.func106, Try.ntmps106
    go_wp2_with fail
    refine Calls.mono H6.out ?_
    rintro e w1 ⟨rfl, hb1⟩
    have HE : Hid _ := And.intro (HA.out.later hb1) (hb1.mono hB)
    clear hb1 H6 c0
    go_wp2
    go_ret
    exact ⟨rfl, HE.out.1, HE.out.2⟩
  | true =>
    have ho : okAt ns x = false := by unfold dhB at hd; rw [h6] at hd; simpa using hd
    have H6 : Hid _ := specIs_any a cap ns pub 6 w hl hr
    rw [h6] at H6
    have HR : Hid (RowN w.heap.size w a ns) := hr
    clear hr hd h6
    go_enter Try.func106, Try.ntmps106
    go_wp2_with fail
    refine Calls.mono H6.out ?_
    rintro e w1 ⟨rfl, hb1⟩
    have H2 : Hid _ := specOk_any a cap ns x w1 hl (HR.out.grown hb1)
    rw [ho] at H2
    have c1 : w1.cell? ⟨g, 0, none⟩ = some (.slice a ns.length cap) := (hb1.cell (p := ⟨g, 0, none⟩) h2).trans c0
    clear H6 c0 ho
    go_wp2_with fail
    refine Calls.mono H2.out ?_
    rintro e w2 ⟨rfl, hb2⟩
    have hb : Below w.heap.size w w2 := hb1.trans (hb2.mono hb1.size)
    have HE : Hid _ := And.intro (HA.out.later hb) (hb.mono hB)
    clear hb hb1 hb2 H2 c1
    go_wp2
    go_ret
    exact ⟨rfl, HE.out.1, HE.out.2⟩
set_option maxHeartbeats 1600000 in
set_option maxRecDepth 20000 in
theorem dhP_yes (B g : Nat) (ns : List Nd) (x pub : Int) (w : World) (hl : ns.length ≤ 1048576) (h : ArenaAt B w g ns) (hB : B ≤ w.heap.size) (hd : dhB ns x pub = true) :
    Calls Try.prog 106 #[.pointer (some ⟨g, 0, none⟩), .int .i64 x, .int .i64 pub] w fun e w' => e = .returned (.int .i64 (putK ns (dhN ns x pub))) ∧ ArenaAt B w' g (putA ns (dhN ns x pub)) ∧ Below B w w' := by
  have h' := h
  obtain ⟨h1, h2, v, h3, h4, h5⟩ := h
  obtain ⟨a, cap, rfl, ha, hr⟩ := h4.row
  have c0 : w.cell? ⟨g, 0, none⟩ = some (.slice a ns.length cap) := (cell_of_row w g 0 _ _ _ h3).trans rfl
  have HA : Hid (ArenaAt B w g ns) := h'
  clear h3 h4 h5 ha h'
  have h6 : isK ns pub 6 = true ∧ okAt ns x = true := by unfold dhB at hd; simpa using hd
  have H6 : Hid _ := specIs_any a cap ns pub 6 w hl hr
  rw [h6.1] at H6
  have H2 : Hid (∀ wz, Below w.heap.size w wz → Calls Try.prog 31 #[.agg #[.slice a ns.length cap], .int .i64 x] wz fun e w' => e = .returned (.bool true) ∧ Below wz.heap.size wz w') := fun wz hz => by have := specOk_any a cap ns x wz hl (hr.grown hz); rw [h6.2] at this; exact this
  obtain ⟨p, rfl, hp⟩ := okAt_in (isK_ok h6.1).1
  obtain ⟨b, off, rfl⟩ := hr.addr hp
  obtain ⟨hbl, -, -, d2, -⟩ := hr.at (Below.refl _ _) hp
  have hp0 : (0 : Int) ≤ (p : Int) := by omega
  have hp1 : (p : Int) < (ns.length : Int) := by omega
  have en : ndAt ns (p : Int) = ns.getD p Nd.zero := ndAt_nat ns p
  rw [← en] at d2
  have HX : Hid (∀ wz, Below w.heap.size w wz → Calls Try.prog 25 #[.agg #[.slice (some ⟨b, off, none⟩) ns.length cap], .int .i64 x] wz fun e w' => e = .returned (.tuple #[.string (txS ns x), .bool (txB ns x)]) ∧ Below wz.heap.size wz w') := fun wz hz => specTextV_any (some ⟨b, off, none⟩) cap ns x wz hl (hr.grown hz)
  have HY : Hid (∀ wz, Below w.heap.size w wz → Calls Try.prog 25 #[.agg #[.slice (some ⟨b, off, none⟩) ns.length cap], .int .i64 (ndAt ns (p : Int)).a] wz fun e w' => e = .returned (.tuple #[.string (txS ns (ndAt ns (p : Int)).a), .bool (txB ns (ndAt ns (p : Int)).a)]) ∧ Below wz.heap.size wz w') := fun wz hz => specTextV_any (some ⟨b, off, none⟩) cap ns _ wz hl (hr.grown hz)
  obtain ⟨z, HZ, hz⟩ : ∃ z, Hid (dhN ns x (p : Int) = z) ∧ dhN ns x (p : Int) = z := ⟨_, rfl, rfl⟩
  rw [hz]
  unfold dhN swapB at hz
  have HP : Hid (∀ wz, Below w.heap.size w wz → Calls Try.prog 85 #[.pointer (some ⟨g, 0, none⟩), .agg #[.int .i64 z.k, .int .i64 z.n, .int .i64 z.a, .int .i64 z.b]] wz fun e w' => e = .returned (.int .i64 (putK ns z)) ∧ ArenaAt B w' g (putA ns z) ∧ Below B wz w') := fun wz hw => specPutP_any B g ns z wz hl (HA.out.later hw) (Nat.le_trans hB hw.size)
  generalize putK ns z = kk at HP ⊢
  generalize putA ns z = ms at HP ⊢
  generalize (ndAt ns (p : Int)).a = y at HX HY d2 hz
  have hg := cmpS_less (txS ns x) (txS ns y)
  have he := cmpS_eq (txS ns x) (txS ns y)
  have hrg := cmpS_range (txS ns x) (txS ns y)
  generalize txS ns x = s at HX hz hg he hrg
  generalize txS ns y = t at HY hz hg he hrg
  generalize txB ns x = b1 at HX
  generalize txB ns y = b2 at HY
  generalize cmpS s t = c at hz hg he hrg
  clear hr hd h6 en HZ HA
  have fin : ∀ Z : Nd, Z = z → Hid (∀ wz, Below w.heap.size w wz → Calls Try.prog 85 #[.pointer (some ⟨g, 0, none⟩), .agg #[.int .i64 Z.k, .int .i64 Z.n, .int .i64 Z.a, .int .i64 Z.b]] wz fun e w' => e = .returned (.int .i64 kk) ∧ ArenaAt B w' g ms ∧ Below B wz w') := fun Z e => by rw [e]; exact HP
  clear HP
  rcases hrg with hcc | hcc | hcc
  · rw [hcc] at hg he
    have hg' : Op.bytesLess s.toList t.toList = true := hg
    have he' : (s.toList == t.toList) = false := he
    clear hg he
    have HQ := fin ⟨7, 0, x, y⟩ (by rw [← hz]; simp [hcc])
    clear fin hz hcc
    go_enter Try.func106, Try.ntmps106
    go_wp2_with fail
    refine Calls.mono H6.out ?_
    rintro e w1 ⟨rfl, hb1⟩
    have c1 : w1.cell? ⟨g, 0, none⟩ = some (.slice (some ⟨b, off, none⟩) ns.length cap) := (hb1.cell (p := ⟨g, 0, none⟩) h2).trans c0
    clear H6
    go_wp2_with fail
    refine (H2.out w1 hb1).mono ?_
    rintro e w2 ⟨rfl, hb2⟩
    have hB2 : Below w.heap.size w w2 := hb1.trans (hb2.mono hb1.size)
    have c2 : w2.cell? ⟨g, 0, none⟩ = some (.slice (some ⟨b, off, none⟩) ns.length cap) := (hB2.cell (p := ⟨g, 0, none⟩) h2).trans c0
    have e2 := (hB2.cell hbl).trans d2
    clear hb1 hb2 c1 H2
    go_wp2_with fail
    refine (HX.out w2 hB2).mono ?_
    rintro e w3 ⟨rfl, hb3⟩
    have hB3 : Below w.heap.size w w3 := hB2.trans (hb3.mono hB2.size)
    have c3 : w3.cell? ⟨g, 0, none⟩ = some (.slice (some ⟨b, off, none⟩) ns.length cap) := (hB3.cell (p := ⟨g, 0, none⟩) h2).trans c0
    clear hB2 hb3 c2 e2 HX
    go_wp2_with fail
    refine (HY.out w3 hB3).mono ?_
    rintro e w4 ⟨rfl, hb4⟩
    have hB4 : Below w.heap.size w w4 := hB3.trans (hb4.mono hB3.size)
    clear hB3 hb4 c3 HY
    go_wp2_with fail
    refine (HQ.out w4 hB4).mono ?_
    rintro e w5 ⟨rfl, ha5, hb5⟩
    have HE : Hid _ := And.intro ha5 ((hB4.mono hB).trans hb5)
    clear ha5 hb5 hB4 HQ
    go_wp2
    go_ret
    exact ⟨rfl, HE.out.1, HE.out.2⟩
  · rw [hcc] at hg he
    have hg' : Op.bytesLess s.toList t.toList = false := hg
    have he' : (s.toList == t.toList) = true := he
    clear hg he
    by_cases hxy : y < x
    · have hcc : c = 0 ∧ y < x := ⟨hcc, hxy⟩
      have HQ := fin ⟨7, 0, y, x⟩ (by rw [← hz]; simp [hcc])
      clear fin hz hcc
      go_enter Try.func106, Try.ntmps106
      go_wp2_with fail
      refine Calls.mono H6.out ?_
      rintro e w1 ⟨rfl, hb1⟩
      have c1 : w1.cell? ⟨g, 0, none⟩ = some (.slice (some ⟨b, off, none⟩) ns.length cap) := (hb1.cell (p := ⟨g, 0, none⟩) h2).trans c0
      clear H6
      go_wp2_with fail
      refine (H2.out w1 hb1).mono ?_
      rintro e w2 ⟨rfl, hb2⟩
      have hB2 : Below w.heap.size w w2 := hb1.trans (hb2.mono hb1.size)
      have c2 : w2.cell? ⟨g, 0, none⟩ = some (.slice (some ⟨b, off, none⟩) ns.length cap) := (hB2.cell (p := ⟨g, 0, none⟩) h2).trans c0
      have e2 := (hB2.cell hbl).trans d2
      clear hb1 hb2 c1 H2
      go_wp2_with fail
      refine (HX.out w2 hB2).mono ?_
      rintro e w3 ⟨rfl, hb3⟩
      have hB3 : Below w.heap.size w w3 := hB2.trans (hb3.mono hB2.size)
      have c3 : w3.cell? ⟨g, 0, none⟩ = some (.slice (some ⟨b, off, none⟩) ns.length cap) := (hB3.cell (p := ⟨g, 0, none⟩) h2).trans c0
      clear hB2 hb3 c2 e2 HX
      go_wp2_with fail
      refine (HY.out w3 hB3).mono ?_
      rintro e w4 ⟨rfl, hb4⟩
      have hB4 : Below w.heap.size w w4 := hB3.trans (hb4.mono hB3.size)
      clear hB3 hb4 c3 HY
      go_wp2_with fail
      refine (HQ.out w4 hB4).mono ?_
      rintro e w5 ⟨rfl, ha5, hb5⟩
      have HE : Hid _ := And.intro ha5 ((hB4.mono hB).trans hb5)
      clear ha5 hb5 hB4 HQ
      go_wp2
      go_ret
      exact ⟨rfl, HE.out.1, HE.out.2⟩
    · have hcc : c = 0 ∧ ¬ y < x := ⟨hcc, hxy⟩
      have HQ := fin ⟨7, 0, x, y⟩ (by rw [← hz]; simp [hcc])
      clear fin hz hcc
      go_enter Try.func106, Try.ntmps106
      go_wp2_with fail
      refine Calls.mono H6.out ?_
      rintro e w1 ⟨rfl, hb1⟩
      have c1 : w1.cell? ⟨g, 0, none⟩ = some (.slice (some ⟨b, off, none⟩) ns.length cap) := (hb1.cell (p := ⟨g, 0, none⟩) h2).trans c0
      clear H6
      go_wp2_with fail
      refine (H2.out w1 hb1).mono ?_
      rintro e w2 ⟨rfl, hb2⟩
      have hB2 : Below w.heap.size w w2 := hb1.trans (hb2.mono hb1.size)
      have c2 : w2.cell? ⟨g, 0, none⟩ = some (.slice (some ⟨b, off, none⟩) ns.length cap) := (hB2.cell (p := ⟨g, 0, none⟩) h2).trans c0
      have e2 := (hB2.cell hbl).trans d2
      clear hb1 hb2 c1 H2
      go_wp2_with fail
      refine (HX.out w2 hB2).mono ?_
      rintro e w3 ⟨rfl, hb3⟩
      have hB3 : Below w.heap.size w w3 := hB2.trans (hb3.mono hB2.size)
      have c3 : w3.cell? ⟨g, 0, none⟩ = some (.slice (some ⟨b, off, none⟩) ns.length cap) := (hB3.cell (p := ⟨g, 0, none⟩) h2).trans c0
      clear hB2 hb3 c2 e2 HX
      go_wp2_with fail
      refine (HY.out w3 hB3).mono ?_
      rintro e w4 ⟨rfl, hb4⟩
      have hB4 : Below w.heap.size w w4 := hB3.trans (hb4.mono hB3.size)
      clear hB3 hb4 c3 HY
      go_wp2_with fail
      refine (HQ.out w4 hB4).mono ?_
      rintro e w5 ⟨rfl, ha5, hb5⟩
      have HE : Hid _ := And.intro ha5 ((hB4.mono hB).trans hb5)
      clear ha5 hb5 hB4 HQ
      go_wp2
      go_ret
      exact ⟨rfl, HE.out.1, HE.out.2⟩
  · rw [hcc] at hg he
    have hg' : Op.bytesLess s.toList t.toList = false := hg
    have he' : (s.toList == t.toList) = false := he
    clear hg he
    have HQ := fin ⟨7, 0, y, x⟩ (by rw [← hz]; simp [hcc])
    clear fin hz hcc
    go_enter Try.func106, Try.ntmps106
    go_wp2_with fail
    refine Calls.mono H6.out ?_
    rintro e w1 ⟨rfl, hb1⟩
    have c1 : w1.cell? ⟨g, 0, none⟩ = some (.slice (some ⟨b, off, none⟩) ns.length cap) := (hb1.cell (p := ⟨g, 0, none⟩) h2).trans c0
    clear H6
    go_wp2_with fail
    refine (H2.out w1 hb1).mono ?_
    rintro e w2 ⟨rfl, hb2⟩
    have hB2 : Below w.heap.size w w2 := hb1.trans (hb2.mono hb1.size)
    have c2 : w2.cell? ⟨g, 0, none⟩ = some (.slice (some ⟨b, off, none⟩) ns.length cap) := (hB2.cell (p := ⟨g, 0, none⟩) h2).trans c0
    have e2 := (hB2.cell hbl).trans d2
    clear hb1 hb2 c1 H2
    go_wp2_with fail
    refine (HX.out w2 hB2).mono ?_
    rintro e w3 ⟨rfl, hb3⟩
    have hB3 : Below w.heap.size w w3 := hB2.trans (hb3.mono hB2.size)
    have c3 : w3.cell? ⟨g, 0, none⟩ = some (.slice (some ⟨b, off, none⟩) ns.length cap) := (hB3.cell (p := ⟨g, 0, none⟩) h2).trans c0
    clear hB2 hb3 c2 e2 HX
    go_wp2_with fail
    refine (HY.out w3 hB3).mono ?_
    rintro e w4 ⟨rfl, hb4⟩
    have hB4 : Below w.heap.size w w4 := hB3.trans (hb4.mono hB3.size)
    clear hB3 hb4 c3 HY
    go_wp2_with fail
    refine (HQ.out w4 hB4).mono ?_
    rintro e w5 ⟨rfl, ha5, hb5⟩
    have HE : Hid _ := And.intro ha5 ((hB4.mono hB).trans hb5)
    clear ha5 hb5 hB4 HQ
    go_wp2
    go_ret
    exact ⟨rfl, HE.out.1, HE.out.2⟩
theorem dhP_any (B g : Nat) (ns : List Nd) (x pub : Int) (w : World) (hl : ns.length ≤ 1048576) (h : ArenaAt B w g ns) (hB : B ≤ w.heap.size) :
    Calls Try.prog 106 #[.pointer (some ⟨g, 0, none⟩), .int .i64 x, .int .i64 pub] w fun e w' => e = .returned (.int .i64 (dhK ns x pub)) ∧ ArenaAt B w' g (dhA ns x pub) ∧ Below B w w' := by
  cases hd : dhB ns x pub with
  | false =>
    have e1 : dhK ns x pub = -1 := by unfold dhK; rw [hd]; rfl
    have e2 : dhA ns x pub = ns := by unfold dhA; rw [hd]; rfl
    rw [e1, e2]
    exact dhP_no B g ns x pub w hl h hB hd
  | true =>
    have e1 : dhK ns x pub = putK ns (dhN ns x pub) := by unfold dhK; rw [hd]; rfl
    have e2 : dhA ns x pub = putA ns (dhN ns x pub) := by unfold dhA; rw [hd]; rfl
    rw [e1, e2]
    exact dhP_yes B g ns x pub w hl h hB hd
set_option maxHeartbeats 800000 in
/-- spec.DhOf, the specification's. -/
theorem specDh_any (a : Option Addr) (cap : Nat) (ns : List Nd) (x pub : Int) (w : World) (hl : ns.length ≤ 1048576) (ha : AddrN a cap) (hr : RowN w.heap.size w a ns) :
    Calls Try.prog 56 #[.agg #[.slice a ns.length cap], .int .i64 x, .int .i64 pub] w fun e w' => ∃ v, e = .returned (.tuple #[.agg #[v], .int .i64 (dhK ns x pub)]) ∧ OwnN w.heap.size w' v (dhA ns x pub) ∧ Below w.heap.size w w' := by
  obtain ⟨A, K, R, HP, HN1, HN2, HN3, hEA, hEK⟩ : ∃ (A : List Nd) (K : Int) (R : List Nd), Hid (∀ (B g : Nat) (wz : World), w.heap.size ≤ B → Below w.heap.size w wz → ArenaAt B wz g ns → B ≤ wz.heap.size → Calls Try.prog 106 #[.pointer (some ⟨g, 0, none⟩), .int .i64 x, .int .i64 pub] wz fun e w' => e = .returned (.int .i64 K) ∧ ArenaAt B w' g A ∧ Below B wz w') ∧ Hid (K < 0 → K = -1) ∧ Hid (K < 0 → R = ns) ∧ Hid (¬ K < 0 → R = A) ∧ R = dhA ns x pub ∧ K = dhK ns x pub :=
    ⟨dhA ns x pub, dhK ns x pub, dhA ns x pub, fun B g wz hwB hwz h hB => dhP_any B g ns x pub wz hl h hB, dhK_neg, dhA_neg, fun _ => rfl, rfl, rfl⟩
  rw [← hEA, ← hEK]
  clear hEA hEK
  have hb0 : Below w.heap.size w ((w.alloc (.cells #[.slice a ns.length cap] 26)).alloc (.cells #[.slice none 0 0] 26)) := ((Below.refl _ _).alloc (Nat.le_refl _) _).alloc (by simp) _
  have hs0 : ((w.alloc (.cells #[.slice a ns.length cap] 26)).alloc (.cells #[.slice none 0 0] 26)).heap.size = w.heap.size + 2 := by simp
  have hA0 : ((w.alloc (.cells #[.slice a ns.length cap] 26)).alloc (.cells #[.slice none 0 0] 26)).heap[w.heap.size]? = some (.cells #[.slice a ns.length cap] 26 (0, 0)) := (heap_alloc_old _ _ (by simp)).trans (heap_alloc_new w _)
  have hr0 : ((w.alloc (.cells #[.slice a ns.length cap] 26)).alloc (.cells #[.slice none 0 0] 26)).heap[w.heap.size + 1]? = some (.cells #[.slice none 0 0] 26 (0, 0)) := by
    have := heap_alloc_new (w.alloc (.cells #[.slice a ns.length cap] 26)) (.cells #[.slice none 0 0] 26)
    simpa using this
  have HR : Hid (RowN w.heap.size w a ns) := hr
  have HA : Hid (AddrN a cap) := ha
  clear hr ha
  go_enter Try.func56, Try.ntmps56
  go_wp2_with fail
  generalize (w.alloc (.cells #[.slice a ns.length cap] 26)).alloc (.cells #[.slice none 0 0] 26) = w0 at hb0 hs0 hA0 hr0 ⊢
  refine (specCopy_any a cap ns w0 hl HA.out (HR.out.grown hb0)).mono ?_
  rintro e w1 ⟨v, rfl, hown, hb1⟩
  obtain ⟨a1, cap1, rfl, ha1, hr1⟩ := hown.row
  have hA1 := (hb1.block w.heap.size (by omega)).trans hA0
  have hr1' := (hb1.block (w.heap.size + 1) (by omega)).trans hr0
  have hs1 := hb1.size
  have hbA : Below w1.heap.size w1 (w1.alloc (.cells #[.slice a1 ns.length cap1] 26)) := (Below.refl _ _).alloc (Nat.le_refl _) _
  have hAt : ArenaAt w0.heap.size (w1.alloc (.cells #[.slice a1 ns.length cap1] 26)) w1.heap.size ns := ⟨hs1, by simp, _, heap_alloc_new w1 _, hown.later hbA, fun h => by have := (hown.lt _ h).2; omega⟩
  have HB1 : Hid (Below w.heap.size w w1) := hb0.trans (hb1.mono (by omega))
  have HA1 : Hid (w1.heap[w.heap.size]? = some (.cells #[.slice a ns.length cap] 26 (0, 0))) := hA1
  have HR1 : Hid (w1.heap[w.heap.size + 1]? = some (.cells #[.slice none 0 0] 26 (0, 0))) := hr1'
  have HAt : Hid _ := hAt
  clear hAt hown hA1 hr1' hb0 hb1 hA0 hr0 ha1 hr1
  go_wp2_with fail
  refine Calls.mono (HP.out _ _ _ (show w.heap.size ≤ w0.heap.size by omega) (HB1.out.trans (hbA.mono (by omega))) HAt.out (by simp; omega)) ?_
  rintro e w2 ⟨rfl, hat, hb2⟩
  obtain ⟨t1, t2, v2, t3, t4, t5⟩ := hat
  obtain ⟨a2, cap2, rfl, _, _⟩ := t4.row
  have hB2 : Below w.heap.size w w2 := HB1.out.trans ((hbA.mono (by omega)).trans (hb2.mono (by omega)))
  have hA2 : w2.heap[w.heap.size]? = some (.cells #[.slice a ns.length cap] 26 (0, 0)) := (hb2.block _ (by omega)).trans ((hbA.block _ (by omega)).trans HA1.out)
  have hR2 : w2.heap[w.heap.size + 1]? = some (.cells #[.slice none 0 0] 26 (0, 0)) := (hb2.block _ (by omega)).trans ((hbA.block _ (by omega)).trans HR1.out)
  have hs2 : w1.heap.size < w2.heap.size := t2
  clear HP HAt hb2 hbA HB1 HA1 HR1 t1 t2 t5
  by_cases hk : K < 0
  · have o0 : w2.cell? ⟨w.heap.size, 0, none⟩ = some (.slice a ns.length cap) := (cell_of_row w2 _ 0 _ _ _ hA2).trans rfl
    have HB2 : Hid (Below w.heap.size w w2) := hB2
    have HR2 : Hid (w2.heap[w.heap.size + 1]? = some (.cells #[.slice none 0 0] 26 (0, 0))) := hR2
    clear t3 t4 hA2 hR2 hB2
    go_wp2_with fail
    refine (specCopy_any a cap ns w2 hl HA.out (HR.out.grown HB2.out)).mono ?_
    rintro e w3 ⟨v3, rfl, ho3, hb3⟩
    obtain ⟨a3, cap3, rfl, _, _⟩ := ho3.row
    have hR3 := (hb3.block (w.heap.size + 1) (by omega)).trans HR2.out
    have r0 : w3.cell? ⟨w.heap.size + 1, 0, none⟩ = some (.slice none 0 0) := (cell_of_row w3 _ 0 _ _ _ hR3).trans rfl
    have f0 : w3.frozen? ⟨w.heap.size + 1, 0, none⟩ = false := frozen_of_row w3 _ 0 _ _ hR3
    have HBL : Hid ((w3.setCell ⟨w.heap.size + 1, 0, none⟩ (.slice a3 ns.length cap3)).heap[w.heap.size + 1]? = some (.cells #[.slice a3 ns.length cap3] 26 (0, 0))) := (heap_setCell_same w3 _ 0 _ _ _ hR3).trans rfl
    have HO3 : Hid (OwnN w.heap.size (w3.setCell ⟨w.heap.size + 1, 0, none⟩ (.slice a3 ns.length cap3)) (.slice a3 ns.length cap3) ns) := OwnN.base (ownsRow_setCell_below ho3 (show w.heap.size + 1 < w2.heap.size by omega) _) (by omega)
    have HB3 : Hid (Below w.heap.size w (w3.setCell ⟨w.heap.size + 1, 0, none⟩ (.slice a3 ns.length cap3))) := (HB2.out.trans (hb3.mono (by omega))).setCell (show w.heap.size ≤ w.heap.size + 1 by omega) _
    clear ho3 hb3 hR3 o0
    go_wp2
    refine bodyPost_ret (res_cell2 rfl _ _ (w.heap.size + 1) 26 #[.slice a3 ns.length cap3] (0, 0) _ rfl ?_ Try.underlying26 rfl arenaSize) rfl ?_
    · exact HBL.out
    · exact ⟨_, by rw [HN1.out hk]; rfl, by rw [HN2.out hk]; exact HO3.out, HB3.out⟩
  · have o0 : w2.cell? ⟨w1.heap.size, 0, none⟩ = some (.slice a2 A.length cap2) := (cell_of_row w2 _ 0 _ _ _ t3).trans rfl
    have r0 : w2.cell? ⟨w.heap.size + 1, 0, none⟩ = some (.slice none 0 0) := (cell_of_row w2 _ 0 _ _ _ hR2).trans rfl
    have f0 : w2.frozen? ⟨w.heap.size + 1, 0, none⟩ = false := frozen_of_row w2 _ 0 _ _ hR2
    have HBL : Hid ((w2.setCell ⟨w.heap.size + 1, 0, none⟩ (.slice a2 A.length cap2)).heap[w.heap.size + 1]? = some (.cells #[.slice a2 A.length cap2] 26 (0, 0))) := (heap_setCell_same w2 _ 0 _ _ _ hR2).trans rfl
    have HO2 : Hid (OwnN w.heap.size (w2.setCell ⟨w.heap.size + 1, 0, none⟩ (.slice a2 A.length cap2)) (.slice a2 A.length cap2) A) := OwnN.base (ownsRow_setCell_below t4 (show w.heap.size + 1 < w0.heap.size by omega) _) (by omega)
    have HB2 : Hid (Below w.heap.size w (w2.setCell ⟨w.heap.size + 1, 0, none⟩ (.slice a2 A.length cap2))) := hB2.setCell (show w.heap.size ≤ w.heap.size + 1 by omega) _
    clear t3 t4 hA2 hR2 hB2
    go_wp2
    refine bodyPost_ret (res_cell2 rfl _ _ (w.heap.size + 1) 26 #[.slice a2 A.length cap2] (0, 0) _ rfl ?_ Try.underlying26 rfl arenaSize) rfl ?_
    · exact HBL.out
    · exact ⟨_, rfl, by rw [HN3.out hk]; exact HO2.out, HB2.out⟩
end Go.Proofs.Ytodpfdjlhbjlgaa
