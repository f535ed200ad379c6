/- The contracts of chapter 4's l04Dh and DhOf, the specification's. -/
import Derived.Test.YtffnadnndmmliaaMakeOrd
import Derived.WalkKit
import Derived.WalkLawsBesides
import Derived.WalkSpells
import Derived.Laws.Rows
namespace Go.Proofs.Ytffnadnndmmliaa
open Go.RowKit Go.PlainAid
set_option linter.unusedVariables false
theorem dhP_no (B g : Nat) (ns : List Nd) (x pub : Int) (w : World) (hl : ns.length ≤ 1048576) (h : ArenaAt B w g ns) (hB : B ≤ w.heap.size) (hd : dhB ns x pub = false) :
    Calls Try.prog 179 #[.pointer (some ⟨g, 0, none⟩), .int .i64 x, .int .i64 pub] w fun e w' => e = .returned (.int .i64 (-1)) ∧ ArenaAt B w' g ns ∧ Below B w w' := by
  have h' := h
  obtain ⟨h1, h2, v, h3, h4, h5⟩ := h
  obtain ⟨a, cap, rfl, ha, hr⟩ := h4.row
  have c0 : w.cell? ⟨g, 0, none⟩ = some (.slice a ns.length cap) := (cell_of_row w g 0 _ _ _ h3).trans rfl
  have HA : Hid (ArenaAt B w g ns) := h'
  clear h3 h4 h5 ha h'
  cases h6 : isK ns pub 6 with
  | false =>
    have H6 : Hid _ := specIs_any a cap ns pub 6 w hl hr
    rw [h6] at H6
    clear hr hd h6
    go_enter Try.func179, Try.ntmps179
    go_wp2_with fail
    refine Calls.mono H6.out ?_
    rintro e w1 ⟨rfl, hb1⟩
    have HE : Hid _ := And.intro (HA.out.later hb1) (hb1.mono hB)
    clear hb1 H6 c0
    go_wp2
    go_ret
    exact ⟨rfl, HE.out.1, HE.out.2⟩
  | true =>
    have ho : okAt ns x = false := by unfold dhB at hd; rw [h6] at hd; simpa using hd
    have H6 : Hid _ := specIs_any a cap ns pub 6 w hl hr
    rw [h6] at H6
    have HR : Hid (RowN w.heap.size w a ns) := hr
    clear hr hd h6
    go_enter Try.func179, Try.ntmps179
    go_wp2_with fail
    refine Calls.mono H6.out ?_
    rintro e w1 ⟨rfl, hb1⟩
    have H2 : Hid _ := specOk_any a cap ns x w1 hl (HR.out.grown hb1)
    rw [ho] at H2
    have c1 : w1.cell? ⟨g, 0, none⟩ = some (.slice a ns.length cap) := (hb1.cell (p := ⟨g, 0, none⟩) h2).trans c0
    clear H6 c0 ho
    go_wp2_with fail
    refine Calls.mono H2.out ?_
    rintro e w2 ⟨rfl, hb2⟩
    have hb : Below w.heap.size w w2 := hb1.trans (hb2.mono hb1.size)
    have HE : Hid _ := And.intro (HA.out.later hb) (hb.mono hB)
    clear hb hb1 hb2 H2 c1
    go_wp2
    go_ret
    exact ⟨rfl, HE.out.1, HE.out.2⟩
set_option maxHeartbeats 1600000 in
set_option maxRecDepth 20000 in
theorem dhP_yes (B g : Nat) (ns : List Nd) (x pub : Int) (w : World) (hl : ns.length ≤ 1048576) (h : ArenaAt B w g ns) (hB : B ≤ w.heap.size) (hd : dhB ns x pub = true) :
    Calls Try.prog 179 #[.pointer (some ⟨g, 0, none⟩), .int .i64 x, .int .i64 pub] w fun e w' => e = .returned (.int .i64 (putK ns (dhN ns x pub))) ∧ ArenaAt B w' g (putA ns (dhN ns x pub)) ∧ Below B w w' := by
  have h' := h
  obtain ⟨h1, h2, v, h3, h4, h5⟩ := h
  obtain ⟨a, cap, rfl, ha, hr⟩ := h4.row
  have c0 : w.cell? ⟨g, 0, none⟩ = some (.slice a ns.length cap) := (cell_of_row w g 0 _ _ _ h3).trans rfl
  have HA : Hid (ArenaAt B w g ns) := h'
  clear h3 h4 h5 ha h'
  have h6 : isK ns pub 6 = true ∧ okAt ns x = true := by unfold dhB at hd; simpa using hd
  have H6 : Hid _ := specIs_any a cap ns pub 6 w hl hr
  rw [h6.1] at H6
  have H2 : Hid (∀ wz, Below w.heap.size w wz → Calls Try.prog 38 #[.agg #[.slice a ns.length cap], .int .i64 x] wz fun e w' => e = .returned (.bool true) ∧ Below wz.heap.size wz w') := fun wz hz => by have := specOk_any a cap ns x wz hl (hr.grown hz); rw [h6.2] at this; exact this
  obtain ⟨p, rfl, hp⟩ := okAt_in (isK_ok h6.1).1
  obtain ⟨b, off, rfl⟩ := hr.addr hp
  obtain ⟨hbl, -, -, d2, -⟩ := hr.at (Below.refl _ _) hp
  have hp0 : (0 : Int) ≤ (p : Int) := by omega
  have hp1 : (p : Int) < (ns.length : Int) := by omega
  have en : ndAt ns (p : Int) = ns.getD p Nd.zero := ndAt_nat ns p
  rw [← en] at d2
  have HX : Hid (∀ wz, Below w.heap.size w wz → Calls Try.prog 32 #[.agg #[.slice (some ⟨b, off, none⟩) ns.length cap], .int .i64 x] wz fun e w' => e = .returned (.tuple #[.string (txS ns x), .bool (txB ns x)]) ∧ Below wz.heap.size wz w') := fun wz hz => specTextV_any (some ⟨b, off, none⟩) cap ns x wz hl (hr.grown hz)
  have HY : Hid (∀ wz, Below w.heap.size w wz → Calls Try.prog 32 #[.agg #[.slice (some ⟨b, off, none⟩) ns.length cap], .int .i64 (ndAt ns (p : Int)).a] wz fun e w' => e = .returned (.tuple #[.string (txS ns (ndAt ns (p : Int)).a), .bool (txB ns (ndAt ns (p : Int)).a)]) ∧ Below wz.heap.size wz w') := fun wz hz => specTextV_any (some ⟨b, off, none⟩) cap ns _ wz hl (hr.grown hz)
  obtain ⟨z, HZ, hz⟩ : ∃ z, Hid (dhN ns x (p : Int) = z) ∧ dhN ns x (p : Int) = z := ⟨_, rfl, rfl⟩
  rw [hz]
  unfold dhN swapB at hz
  have HP : Hid (∀ wz, Below w.heap.size w wz → Calls Try.prog 103 #[.pointer (some ⟨g, 0, none⟩), .agg #[.int .i64 z.k, .int .i64 z.n, .int .i64 z.a, .int .i64 z.b]] wz fun e w' => e = .returned (.int .i64 (putK ns z)) ∧ ArenaAt B w' g (putA ns z) ∧ Below B wz w') := fun wz hw => specPutP_any B g ns z wz hl (HA.out.later hw) (Nat.le_trans hB hw.size)
  generalize putK ns z = kk at HP ⊢
  generalize putA ns z = ms at HP ⊢
  generalize (ndAt ns (p : Int)).a = y at HX HY d2 hz
  have hg := cmpS_less (txS ns x) (txS ns y)
  have he := cmpS_eq (txS ns x) (txS ns y)
  have hrg := cmpS_range (txS ns x) (txS ns y)
  generalize txS ns x = s at HX hz hg he hrg
  generalize txS ns y = t at HY hz hg he hrg
  generalize txB ns x = b1 at HX
  generalize txB ns y = b2 at HY
  generalize cmpS s t = c at hz hg he hrg
  clear hr hd h6 en HZ HA
  have fin : ∀ Z : Nd, Z = z → Hid (∀ wz, Below w.heap.size w wz → Calls Try.prog 103 #[.pointer (some ⟨g, 0, none⟩), .agg #[.int .i64 Z.k, .int .i64 Z.n, .int .i64 Z.a, .int .i64 Z.b]] wz fun e w' => e = .returned (.int .i64 kk) ∧ ArenaAt B w' g ms ∧ Below B wz w') := fun Z e => by rw [e]; exact HP
  clear HP
  rcases hrg with hcc | hcc | hcc
  · rw [hcc] at hg he
    have hg' : Op.bytesLess s.toList t.toList = true := hg
    have he' : (s.toList == t.toList) = false := he
    clear hg he
    have HQ := fin ⟨7, 0, x, y⟩ (by rw [← hz]; simp [hcc])
    clear fin hz hcc
    go_enter Try.func179, Try.ntmps179
    go_wp2_with fail
    refine Calls.mono H6.out ?_
    rintro e w1 ⟨rfl, hb1⟩
    have c1 : w1.cell? ⟨g, 0, none⟩ = some (.slice (some ⟨b, off, none⟩) ns.length cap) := (hb1.cell (p := ⟨g, 0, none⟩) h2).trans c0
    clear H6
    go_wp2_with fail
    refine (H2.out w1 hb1).mono ?_
    rintro e w2 ⟨rfl, hb2⟩
    have hB2 : Below w.heap.size w w2 := hb1.trans (hb2.mono hb1.size)
    have c2 : w2.cell? ⟨g, 0, none⟩ = some (.slice (some ⟨b, off, none⟩) ns.length cap) := (hB2.cell (p := ⟨g, 0, none⟩) h2).trans c0
    have e2 := (hB2.cell hbl).trans d2
    clear hb1 hb2 c1 H2
    go_wp2_with fail
    refine (HX.out w2 hB2).mono ?_
    rintro e w3 ⟨rfl, hb3⟩
    have hB3 : Below w.heap.size w w3 := hB2.trans (hb3.mono hB2.size)
    have c3 : w3.cell? ⟨g, 0, none⟩ = some (.slice (some ⟨b, off, none⟩) ns.length cap) := (hB3.cell (p := ⟨g, 0, none⟩) h2).trans c0
    clear hB2 hb3 c2 e2 HX
    go_wp2_with fail
    refine (HY.out w3 hB3).mono ?_
    rintro e w4 ⟨rfl, hb4⟩
    have hB4 : Below w.heap.size w w4 := hB3.trans (hb4.mono hB3.size)
    clear hB3 hb4 c3 HY
    go_wp2_with fail
    refine (HQ.out w4 hB4).mono ?_
    rintro e w5 ⟨rfl, ha5, hb5⟩
    have HE : Hid _ := And.intro ha5 ((hB4.mono hB).trans hb5)
    clear ha5 hb5 hB4 HQ
    go_wp2
    go_ret
    exact ⟨rfl, HE.out.1, HE.out.2⟩
  · rw [hcc] at hg he
    have hg' : Op.bytesLess s.toList t.toList = false := hg
    have he' : (s.toList == t.toList) = true := he
    clear hg he
    by_cases hxy : y < x
    · have hcc : c = 0 ∧ y < x := ⟨hcc, hxy⟩
      have HQ := fin ⟨7, 0, y, x⟩ (by rw [← hz]; simp [hcc])
      clear fin hz hcc
      go_enter Try.func179, Try.ntmps179
      go_wp2_with fail
      refine Calls.mono H6.out ?_
      rintro e w1 ⟨rfl, hb1⟩
      have c1 : w1.cell? ⟨g, 0, none⟩ = some (.slice (some ⟨b, off, none⟩) ns.length cap) := (hb1.cell (p := ⟨g, 0, none⟩) h2).trans c0
      clear H6
      go_wp2_with fail
      refine (H2.out w1 hb1).mono ?_
      rintro e w2 ⟨rfl, hb2⟩
      have hB2 : Below w.heap.size w w2 := hb1.trans (hb2.mono hb1.size)
      have c2 : w2.cell? ⟨g, 0, none⟩ = some (.slice (some ⟨b, off, none⟩) ns.length cap) := (hB2.cell (p := ⟨g, 0, none⟩) h2).trans c0
      have e2 := (hB2.cell hbl).trans d2
      clear hb1 hb2 c1 H2
      go_wp2_with fail
      refine (HX.out w2 hB2).mono ?_
      rintro e w3 ⟨rfl, hb3⟩
      have hB3 : Below w.heap.size w w3 := hB2.trans (hb3.mono hB2.size)
      have c3 : w3.cell? ⟨g, 0, none⟩ = some (.slice (some ⟨b, off, none⟩) ns.length cap) := (hB3.cell (p := ⟨g, 0, none⟩) h2).trans c0
      clear hB2 hb3 c2 e2 HX
      go_wp2_with fail
      refine (HY.out w3 hB3).mono ?_
      rintro e w4 ⟨rfl, hb4⟩
      have hB4 : Below w.heap.size w w4 := hB3.trans (hb4.mono hB3.size)
      clear hB3 hb4 c3 HY
      go_wp2_with fail
      refine (HQ.out w4 hB4).mono ?_
      rintro e w5 ⟨rfl, ha5, hb5⟩
      have HE : Hid _ := And.intro ha5 ((hB4.mono hB).trans hb5)
      clear ha5 hb5 hB4 HQ
      go_wp2
      go_ret
      exact ⟨rfl, HE.out.1, HE.out.2⟩
    · have hcc : c = 0 ∧ ¬ y < x := ⟨hcc, hxy⟩
      have HQ := fin ⟨7, 0, x, y⟩ (by rw [← hz]; simp [hcc])
      clear fin hz hcc
      go_enter Try.func179, Try.ntmps179
      go_wp2_with fail
      refine Calls.mono H6.out ?_
      rintro e w1 ⟨rfl, hb1⟩
      have c1 : w1.cell? ⟨g, 0, none⟩ = some (.slice (some ⟨b, off, none⟩) ns.length cap) := (hb1.cell (p := ⟨g, 0, none⟩) h2).trans c0
      clear H6
      go_wp2_with fail
      refine (H2.out w1 hb1).mono ?_
      rintro e w2 ⟨rfl, hb2⟩
      have hB2 : Below w.heap.size w w2 := hb1.trans (hb2.mono hb1.size)
      have c2 : w2.cell? ⟨g, 0, none⟩ = some (.slice (some ⟨b, off, none⟩) ns.length cap) := (hB2.cell (p := ⟨g, 0, none⟩) h2).trans c0
      have e2 := (hB2.cell hbl).trans d2
      clear hb1 hb2 c1 H2
      go_wp2_with fail
      refine (HX.out w2 hB2).mono ?_
      rintro e w3 ⟨rfl, hb3⟩
      have hB3 : Below w.heap.size w w3 := hB2.trans (hb3.mono hB2.size)
      have c3 : w3.cell? ⟨g, 0, none⟩ = some (.slice (some ⟨b, off, none⟩) ns.length cap) := (hB3.cell (p := ⟨g, 0, none⟩) h2).trans c0
      clear hB2 hb3 c2 e2 HX
      go_wp2_with fail
      refine (HY.out w3 hB3).mono ?_
      rintro e w4 ⟨rfl, hb4⟩
      have hB4 : Below w.heap.size w w4 := hB3.trans (hb4.mono hB3.size)
      clear hB3 hb4 c3 HY
      go_wp2_with fail
      refine (HQ.out w4 hB4).mono ?_
      rintro e w5 ⟨rfl, ha5, hb5⟩
      have HE : Hid _ := And.intro ha5 ((hB4.mono hB).trans hb5)
      clear ha5 hb5 hB4 HQ
      go_wp2
      go_ret
      exact ⟨rfl, HE.out.1, HE.out.2⟩
  · rw [hcc] at hg he
    have hg' : Op.bytesLess s.toList t.toList = false := hg
    have he' : (s.toList == t.toList) = false := he
    clear hg he
    have HQ := fin ⟨7, 0, y, x⟩ (by rw [← hz]; simp [hcc])
    clear fin hz hcc
    go_enter Try.func179, Try.ntmps179
    go_wp2_with fail
    refine Calls.mono H6.out ?_
    rintro e w1 ⟨rfl, hb1⟩
    have c1 : w1.cell? ⟨g, 0, none⟩ = some (.slice (some ⟨b, off, none⟩) ns.length cap) := (hb1.cell (p := ⟨g, 0, none⟩) h2).trans c0
    clear H6
    go_wp2_with fail
    refine (H2.out w1 hb1).mono ?_
    rintro e w2 ⟨rfl, hb2⟩
    have hB2 : Below w.heap.size w w2 := hb1.trans (hb2.mono hb1.size)
    have c2 : w2.cell? ⟨g, 0, none⟩ = some (.slice (some ⟨b, off, none⟩) ns.length cap) := (hB2.cell (p := ⟨g, 0, none⟩) h2).trans c0
    have e2 := (hB2.cell hbl).trans d2
    clear hb1 hb2 c1 H2
    go_wp2_with fail
    refine (HX.out w2 hB2).mono ?_
    rintro e w3 ⟨rfl, hb3⟩
    have hB3 : Below w.heap.size w w3 := hB2.trans (hb3.mono hB2.size)
    have c3 : w3.cell? ⟨g, 0, none⟩ = some (.slice (some ⟨b, off, none⟩) ns.length cap) := (hB3.cell (p := ⟨g, 0, none⟩) h2).trans c0
    clear hB2 hb3 c2 e2 HX
    go_wp2_with fail
    refine (HY.out w3 hB3).mono ?_
    rintro e w4 ⟨rfl, hb4⟩
    have hB4 : Below w.heap.size w w4 := hB3.trans (hb4.mono hB3.size)
    clear hB3 hb4 c3 HY
    go_wp2_with fail
    refine (HQ.out w4 hB4).mono ?_
    rintro e w5 ⟨rfl, ha5, hb5⟩
    have HE : Hid _ := And.intro ha5 ((hB4.mono hB).trans hb5)
    clear ha5 hb5 hB4 HQ
    go_wp2
    go_ret
    exact ⟨rfl, HE.out.1, HE.out.2⟩
theorem dhP_any (B g : Nat) (ns : List Nd) (x pub : Int) (w : World) (hl : ns.length ≤ 1048576) (h : ArenaAt B w g ns) (hB : B ≤ w.heap.size) :
    Calls Try.prog 179 #[.pointer (some ⟨g, 0, none⟩), .int .i64 x, .int .i64 pub] w fun e w' => e = .returned (.int .i64 (dhK ns x pub)) ∧ ArenaAt B w' g (dhA ns x pub) ∧ Below B w w' := by
  cases hd : dhB ns x pub with
  | false =>
    have e1 : dhK ns x pub = -1 := by unfold dhK; rw [hd]; rfl
    have e2 : dhA ns x pub = ns := by unfold dhA; rw [hd]; rfl
    rw [e1, e2]
    exact dhP_no B g ns x pub w hl h hB hd
  | true =>
    have e1 : dhK ns x pub = putK ns (dhN ns x pub) := by unfold dhK; rw [hd]; rfl
    have e2 : dhA ns x pub = putA ns (dhN ns x pub) := by unfold dhA; rw [hd]; rfl
    rw [e1, e2]
    exact dhP_yes B g ns x pub w hl h hB hd
end Go.Proofs.Ytffnadnndmmliaa
