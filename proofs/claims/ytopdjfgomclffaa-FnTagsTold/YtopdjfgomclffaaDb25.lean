/- Two drawn numbers of a tag (chapter 25): DrawAddLimbs. -/
import Derived.Test.YtopdjfgomclffaaDa25
namespace Go.Proofs.Ytopdjfgomclffaa
open Go.RowKit Go.PlainAid
set_option maxRecDepth 20000
set_option linter.unusedVariables false
set_option linter.unusedSimpArgs false
theorem res_cc25 {P : Program} {fn : Func} {p q : Tmp} {ty tz : TypeId} (h : fn.results = #[.cell p ty, .cell q tz]) (tmps : Array Value) (w : World) (g b : Nat) (t u : TypeId) (cs ds : Array Value) (fr gr : Nat × Nat) (d e : TypeDesc)
    (hp : tmps.getD p undef = .pointer (some ⟨g, 0, none⟩)) (hq : tmps.getD q undef = .pointer (some ⟨b, 0, none⟩)) (hg : w.heap[g]? = some (.cells cs t fr)) (hb : w.heap[b]? = some (.cells ds u gr))
    (hu : P.underlying ty = some d) (hd : (match d with | .struct _ | .array _ _ => true | _ => false) = true) (hi : (P.info? ty).map (·.size) = some cs.size)
    (hv : P.underlying tz = some e) (he : (match e with | .struct _ | .array _ _ => true | _ => false) = true) (hj : (P.info? tz).map (·.size) = some ds.size) :
    (results fn tmps).run P w = .ok (.tuple #[.agg cs, .agg ds]) w := by
  have hp' : tmps[p]?.getD undef = .pointer (some ⟨g, 0, none⟩) := by simpa using hp
  have hq' : tmps[q]?.getD undef = .pointer (some ⟨b, 0, none⟩) := by simpa using hq
  simp [results, h, hp', hq', asAddr, run_loadVar_row w g t ty cs fr d hg hu hd hi, run_loadVar_row w b u tz ds gr e hb hv he hj]
/-- Two boxes, empty yet. -/
def Bx (R : Nat) (w : World) (v : Value) : Prop := w.heap[R]? = some (.cells #[v] 26 (0, 0))
theorem Bx.lt {R : Nat} {w : World} {v : Value} (h : Bx R w v) : R < w.heap.size := (Array.getElem?_eq_some_iff.1 h).1
theorem Bx.next {R : Nat} {w w' : World} {v : Value} (h : Bx R w v) (hb : Below w.heap.size w w') : Bx R w' v := (hb.block R h.lt).trans h
theorem Bx.drawn {R g : Nat} {w w' : World} {v : Value} (h : Bx R w v) (hb : w.grownBy w' (some g)) (hne : R ≠ g) : Bx R w' v := (hb.block R h.lt (by simpa using hne)).trans h
theorem Bx.cell {R : Nat} {w : World} {v : Value} (h : Bx R w v) : w.cell? ⟨R, 0, none⟩ = some v := by rw [cell_of_row w R 0 _ _ _ h]; rfl
theorem Bx.froz {R : Nat} {w : World} {v : Value} (h : Bx R w v) : w.frozen? ⟨R, 0, none⟩ = false := frozen_of_row w R 0 _ _ h
theorem Bx.set {R : Nat} {w : World} {v : Value} (h : Bx R w v) (u : Value) : Bx R (w.setCell ⟨R, 0, none⟩ u) u := by
  show _ = _
  rw [heap_setCell_same w R 0 _ _ _ h]; rfl
theorem Bx.over {R S : Nat} {w : World} {v : Value} (h : Bx R w v) (hne : R ≠ S) (u : Value) : Bx R (w.setCell ⟨S, 0, none⟩ u) v := h.drawn (gb_cell _ _ _ _) hne
set_option maxHeartbeats 3200000 in
theorem drawAdd_any (a : Option Addr) (len cap : Nat) (w : World) (hc : CodeIn w.heap.size w a len) :
    Calls Try.prog 16 #[.slice a len cap] w fun e w' => ∃ (ga ya gb yb : Nat) (xs ys : List Int), e = .returned (.tuple #[.agg #[.slice (some ⟨ga, 0, none⟩) xs.length ya], .agg #[.slice (some ⟨gb, 0, none⟩) ys.length yb]]) ∧ xs.length ≤ 5 ∧ ys.length ≤ 5 ∧ RowI w'.heap.size w' (some ⟨ga, 0, none⟩) xs ∧ RowI w'.heap.size w' (some ⟨gb, 0, none⟩) ys ∧ Below w.heap.size w w' := by
  have hbA : Below w.heap.size w (w.alloc (.cells #[.slice none 0 0] 26)) := (Below.refl _ _).alloc (Nat.le_refl _) _
  have hbB := hbA.alloc hbA.size (.cells #[.slice none 0 0] 26)
  have hx0 : Bx w.heap.size (w.alloc (.cells #[.slice none 0 0] 26)) (.slice none 0 0) := heap_alloc_new w _
  have hx1 : Bx (w.heap.size + 1) ((w.alloc (.cells #[.slice none 0 0] 26)).alloc (.cells #[.slice none 0 0] 26)) (.slice none 0 0) := by
    have := heap_alloc_new (w.alloc (.cells #[.slice none 0 0] 26)) (.cells #[.slice none 0 0] 26)
    rw [show (w.alloc (.cells #[.slice none 0 0] 26)).heap.size = w.heap.size + 1 by simp] at this
    exact this
  replace hx0 := hx0.next ((Below.refl _ _).alloc (Nat.le_refl _) (.cells #[.slice none 0 0] 26))
  have HCD : Hid (CodeIn w.heap.size w a len) := hc
  clear hc hbA
  go_enter Try.func16, Try.ntmps16
  go_upto_region 1 with fail
  generalize (w.alloc (.cells #[.slice none 0 0] 26)).alloc (.cells #[.slice none 0 0] 26) = w0 at hbB hx0 hx1 ⊢
  have hl1 := hx1.lt
  go_wp2_with fail
  refine (new_any a len cap _ (codeIn_later HCD.out hbB)).mono ?_
  rintro e w1 ⟨g, rfl, hc1, hb1⟩
  have hg : w0.heap.size ≤ g := hc1.1
  replace hbB := hbB.trans (hb1.mono hbB.size)
  replace hx0 := hx0.next hb1
  replace hx1 := hx1.next hb1
  generalize w0.heap.size = B0 at hl1 hc1 hg hb1
  clear hb1 HCD
  go_wp2_with fail
  refine (any25_any B0 g _ hc1).mono ?_
  rintro e w2 ⟨ga, ya, xs, rfl, hga, hxl, hrx, hc2, hg2⟩
  replace hbB := hbB.grown hg2 hbB.size (fun k hk => by cases hk; omega)
  replace hx0 := hx0.drawn hg2 (by omega)
  replace hx1 := hx1.drawn hg2 (by omega)
  clear hg2 hc1
  have hbn : Below w2.heap.size w2 (w2.alloc (.cells #[.slice (some ⟨ga, 0, none⟩) xs.length ya] 26)) := (Below.refl _ _).alloc (Nat.le_refl _) _
  have hx2 : Bx w2.heap.size (w2.alloc (.cells #[.slice (some ⟨ga, 0, none⟩) xs.length ya] 26)) (.slice (some ⟨ga, 0, none⟩) xs.length ya) := heap_alloc_new w2 _
  replace hbB := hbB.trans (hbn.mono hbB.size)
  replace hx0 := hx0.next hbn
  replace hx1 := hx1.next hbn
  replace hrx := hrx.grown hbn
  have hc3 := hc2.grown hbn
  have hgs := hc2.2.1
  clear hc2 hbn
  go_upto_region 3 with fail
  generalize w2.alloc (.cells #[.slice (some ⟨ga, 0, none⟩) xs.length ya] 26) = w3 at hbB hx0 hx1 hx2 hrx hc3 ⊢
  generalize w2.heap.size = A at hx2 hgs ⊢
  have hbd : Below w3.heap.size w3 w3.drew := (Below.refl _ _).drew
  have HX0 : Hid (Bx w.heap.size w3.drew (.slice none 0 0)) := hx0.next hbd
  have HX1 : Hid (Bx (w.heap.size + 1) w3.drew (.slice none 0 0)) := hx1.next hbd
  have HX2 : Hid (Bx A w3.drew (.slice (some ⟨ga, 0, none⟩) xs.length ya)) := hx2.next hbd
  have HRX : Hid (RowI w3.drew.heap.size w3.drew (some ⟨ga, 0, none⟩) xs) := hrx.grown hbd
  have HC3 : Hid (Cur B0 w3.drew g) := hc3.grown hbd
  have HB3 : Hid (Below w.heap.size w w3.drew) := hbB.drew
  have a3 := HX2.out.cell
  have HG : Hid (w.heap.size + 1 < g ∧ g < A ∧ g < ga) := ⟨by omega, hgs, hga⟩
  have HXL : Hid (xs.length ≤ 5) := hxl
  clear hx0 hx1 hx2 hrx hc3 hbB hbd hxl
  go_region_with (first | (go_at_call 37; refine Calls.mono (any25_any B0 g _ HC3.out) ?_; rintro e w4 ⟨gb, yb, ys, rfl, hgb, hyl, hry, hc4, hg4⟩; have x0 := HX0.out.drawn hg4 (by have := HG.out; omega); have x1 := HX1.out.drawn hg4 (by have := HG.out; omega); have x2 := HX2.out.drawn hg4 (by have := HG.out; omega); have rx := rowGb HRX.out hg4 (by have := HG.out; omega); have c0 := x0.cell; have z0 := x0.froz; have c1 := x1.cell; have z1 := x1.froz; have c2 := x2.cell))
  all_goals
    have hgx := HG.out
    have hB4 : Below w.heap.size w w4 := HB3.out.grown hg4 HB3.out.size (fun k hk => by cases hk; omega)
    have E1 : Hid (Bx w.heap.size ((w4.setCell ⟨w.heap.size, 0, none⟩ (.slice (some ⟨ga, 0, none⟩) xs.length ya)).setCell ⟨w.heap.size + 1, 0, none⟩ (.slice (some ⟨gb, 0, none⟩) ys.length yb)) (.slice (some ⟨ga, 0, none⟩) xs.length ya) ∧ Bx (w.heap.size + 1) ((w4.setCell ⟨w.heap.size, 0, none⟩ (.slice (some ⟨ga, 0, none⟩) xs.length ya)).setCell ⟨w.heap.size + 1, 0, none⟩ (.slice (some ⟨gb, 0, none⟩) ys.length yb)) (.slice (some ⟨gb, 0, none⟩) ys.length yb) ∧ RowI ((w4.setCell ⟨w.heap.size, 0, none⟩ (.slice (some ⟨ga, 0, none⟩) xs.length ya)).setCell ⟨w.heap.size + 1, 0, none⟩ (.slice (some ⟨gb, 0, none⟩) ys.length yb)).heap.size ((w4.setCell ⟨w.heap.size, 0, none⟩ (.slice (some ⟨ga, 0, none⟩) xs.length ya)).setCell ⟨w.heap.size + 1, 0, none⟩ (.slice (some ⟨gb, 0, none⟩) ys.length yb)) (some ⟨ga, 0, none⟩) xs ∧ RowI ((w4.setCell ⟨w.heap.size, 0, none⟩ (.slice (some ⟨ga, 0, none⟩) xs.length ya)).setCell ⟨w.heap.size + 1, 0, none⟩ (.slice (some ⟨gb, 0, none⟩) ys.length yb)).heap.size ((w4.setCell ⟨w.heap.size, 0, none⟩ (.slice (some ⟨ga, 0, none⟩) xs.length ya)).setCell ⟨w.heap.size + 1, 0, none⟩ (.slice (some ⟨gb, 0, none⟩) ys.length yb)) (some ⟨gb, 0, none⟩) ys ∧ Below w.heap.size w ((w4.setCell ⟨w.heap.size, 0, none⟩ (.slice (some ⟨ga, 0, none⟩) xs.length ya)).setCell ⟨w.heap.size + 1, 0, none⟩ (.slice (some ⟨gb, 0, none⟩) ys.length yb))) := ⟨(x0.set _).over (by omega) _, (x1.over (by omega) _).set _, rowGb (rowGb rx (gb_cell _ _ _ _) (by omega)) (gb_cell _ _ _ _) (by omega), rowGb (rowGb hry (gb_cell _ _ _ _) (by omega)) (gb_cell _ _ _ _) (by omega), (hB4.setCell (show w.heap.size ≤ w.heap.size from Nat.le_refl _) _).setCell (show w.heap.size ≤ w.heap.size + 1 by omega) _⟩
    have E2 : Hid (Bx w.heap.size ((w4.setCell ⟨w.heap.size + 1, 0, none⟩ (.slice (some ⟨gb, 0, none⟩) ys.length yb)).setCell ⟨w.heap.size, 0, none⟩ (.slice (some ⟨ga, 0, none⟩) xs.length ya)) (.slice (some ⟨ga, 0, none⟩) xs.length ya) ∧ Bx (w.heap.size + 1) ((w4.setCell ⟨w.heap.size + 1, 0, none⟩ (.slice (some ⟨gb, 0, none⟩) ys.length yb)).setCell ⟨w.heap.size, 0, none⟩ (.slice (some ⟨ga, 0, none⟩) xs.length ya)) (.slice (some ⟨gb, 0, none⟩) ys.length yb) ∧ RowI ((w4.setCell ⟨w.heap.size + 1, 0, none⟩ (.slice (some ⟨gb, 0, none⟩) ys.length yb)).setCell ⟨w.heap.size, 0, none⟩ (.slice (some ⟨ga, 0, none⟩) xs.length ya)).heap.size ((w4.setCell ⟨w.heap.size + 1, 0, none⟩ (.slice (some ⟨gb, 0, none⟩) ys.length yb)).setCell ⟨w.heap.size, 0, none⟩ (.slice (some ⟨ga, 0, none⟩) xs.length ya)) (some ⟨ga, 0, none⟩) xs ∧ RowI ((w4.setCell ⟨w.heap.size + 1, 0, none⟩ (.slice (some ⟨gb, 0, none⟩) ys.length yb)).setCell ⟨w.heap.size, 0, none⟩ (.slice (some ⟨ga, 0, none⟩) xs.length ya)).heap.size ((w4.setCell ⟨w.heap.size + 1, 0, none⟩ (.slice (some ⟨gb, 0, none⟩) ys.length yb)).setCell ⟨w.heap.size, 0, none⟩ (.slice (some ⟨ga, 0, none⟩) xs.length ya)) (some ⟨gb, 0, none⟩) ys ∧ Below w.heap.size w ((w4.setCell ⟨w.heap.size + 1, 0, none⟩ (.slice (some ⟨gb, 0, none⟩) ys.length yb)).setCell ⟨w.heap.size, 0, none⟩ (.slice (some ⟨ga, 0, none⟩) xs.length ya))) := ⟨(x0.over (by omega) _).set _, (x1.set _).over (by omega) _, rowGb (rowGb rx (gb_cell _ _ _ _) (by omega)) (gb_cell _ _ _ _) (by omega), rowGb (rowGb hry (gb_cell _ _ _ _) (by omega)) (gb_cell _ _ _ _) (by omega), (hB4.setCell (show w.heap.size ≤ w.heap.size + 1 by omega) _).setCell (show w.heap.size ≤ w.heap.size from Nat.le_refl _) _⟩
    clear x0 x1 x2 rx c0 z0 c1 z1 c2 hry hg4 hc4 hB4 HX0 HX1 HX2 HRX HC3 HB3 a3 hgx
    go_wp2
    first
      | (refine bodyPost_ret (res_cc25 rfl _ _ w.heap.size (w.heap.size + 1) 26 26 #[.slice (some ⟨ga, 0, none⟩) xs.length ya] #[.slice (some ⟨gb, 0, none⟩) ys.length yb] (0, 0) (0, 0) _ _ rfl rfl E1.out.1 E1.out.2.1 Try.underlying26 rfl (sizeLimbs1 _) Try.underlying26 rfl (sizeLimbs1 _)) rfl ?_
         exact ⟨ga, ya, gb, yb, xs, ys, rfl, HXL.out, hyl, E1.out.2.2.1, E1.out.2.2.2.1, E1.out.2.2.2.2⟩)
      | (refine bodyPost_ret (res_cc25 rfl _ _ w.heap.size (w.heap.size + 1) 26 26 #[.slice (some ⟨ga, 0, none⟩) xs.length ya] #[.slice (some ⟨gb, 0, none⟩) ys.length yb] (0, 0) (0, 0) _ _ rfl rfl E2.out.1 E2.out.2.1 Try.underlying26 rfl (sizeLimbs1 _) Try.underlying26 rfl (sizeLimbs1 _)) rfl ?_
         exact ⟨ga, ya, gb, yb, xs, ys, rfl, HXL.out, hyl, E2.out.2.2.1, E2.out.2.2.2.1, E2.out.2.2.2.2⟩)
end Go.Proofs.Ytopdjfgomclffaa
