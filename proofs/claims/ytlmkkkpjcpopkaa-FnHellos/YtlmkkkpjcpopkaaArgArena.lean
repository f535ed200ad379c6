/- What an argument of the laws' types Arena and Node holds: opened from the row's reading. -/
import Derived.Test.YtlmkkkpjcpopkaaHeldQ
import Derived.Lib.SmallJoins
import Derived.Deep.Slices
import Derived.OpenShut
import Derived.ProofKit
import Derived.Test.YtlmkkkpjcpopkaaTermPut
import Derived.Test.YtlmkkkpjcpopkaaLawArena3
import Derived.Test.YtlmkkkpjcpopkaaCurW
import Derived.WalkKit
import Derived.WalkLawsBesides
import Derived.WalkSpells
import Derived.ChangeOld
import Derived.Below
import Derived.Test.YtlmkkkpjcpopkaaLawInts
namespace Go.Proofs.Ytlmkkkpjcpopkaa
open Go.ChangeShapes Go.WideShapes Go.ChangeAt Go.RowKit Go.Joins Go.Deep

theorem cellsLNode : Try.prog.cellsOf 148 = 4 := by kernel_rfl
theorem cellsLArena : Try.prog.cellsOf 51 = 1 := by kernel_rfl
theorem cellsLNodes : Try.prog.cellsOf 49 = 1 := by kernel_rfl
theorem cellsLInt : Try.prog.cellsOf 3 = 1 := by kernel_rfl

set_option maxRecDepth 100000 in
theorem node_cells {H : Type} {enc : TypeId × Value → H} {W : World} {base : Nat} {sp : Nat → Bool} {held : Bool} {fuel : Nat} {cs : List Value} {x : DataW H × List MemPlace} (h : DataW.trod enc Try.prog W base sp held fuel 148 cs = some x) :
    ∃ y : Nd, cs = [.int .i64 y.k, .int .i64 y.n, .int .i64 y.a, .int .i64 y.b] ∧ y.Fits := by
  obtain ⟨y0, y1, y2, y3, n, _, hl, h0, h1, h2, h3⟩ := trod_struct4 Try.underlying148 h
  rw [cellsLNode] at hl
  match cs, hl with
  | [c0, c1, c2, c3], _ =>
    simp only [cellsLInt, List.drop_zero, List.drop_succ_cons, List.take_succ_cons, List.take_zero] at h0 h1 h2 h3
    obtain ⟨z0, e0, _, w0⟩ := DataW.trod_int Try.underlying3 h0
    obtain ⟨z1, e1, _, w1⟩ := DataW.trod_int Try.underlying3 h1
    obtain ⟨z2, e2, _, w2⟩ := DataW.trod_int Try.underlying3 h2
    obtain ⟨z3, e3, _, w3⟩ := DataW.trod_int Try.underlying3 h3
    simp only [List.cons.injEq, and_true] at e0 e1 e2 e3
    subst e0 e1 e2 e3
    exact ⟨⟨z0, z1, z2, z3⟩, rfl, bounds_i64 w0, bounds_i64 w1, bounds_i64 w2, bounds_i64 w3⟩
set_option maxRecDepth 100000 in
theorem node_of {H : Type} {enc : TypeId × Value → H} {W : World} {base b0 : Nat} {sp : Nat → Bool} {held : Bool} {r : Reach} {v : Value} {d : DataW H} {p : List MemPlace} (hv : Value.okWide Try.prog W r b0 148 v) (h : DataW.Trod enc Try.prog W base sp held 148 v d p) :
    ∃ y : Nd, v = .agg #[.int .i64 y.k, .int .i64 y.n, .int .i64 y.a, .int .i64 y.b] ∧ y.Fits := by
  obtain ⟨cs, rfl, hsz⟩ := okWide_struct Try.underlying148 hv
  obtain ⟨fuel, hf⟩ := h
  obtain ⟨y, he, hfit⟩ := node_cells hf
  refine ⟨y, ?_, hfit⟩
  congr 1
  apply Array.ext'
  exact he

set_option maxRecDepth 100000 in
theorem arena_of {H : Type} {enc : TypeId × Value → H} {W : World} {b0 : Nat} {r : Reach} {v : Value} {d : DataW H} {p : List MemPlace} (hv : Value.okWide Try.prog W r b0 51 v) (h : DataW.Trod enc Try.prog W 0 (fun _ => true) true 51 v d p) :
    ∃ (a : Option Addr) (cap : Nat) (ns : List Nd), v = .agg #[.slice a ns.length cap] ∧ ns.length ≤ maxLen ∧ RowN W.heap.size W a ns ∧ ∀ y ∈ ns, y.Fits := by
  obtain ⟨cs, rfl, hsz⟩ := okWide_struct Try.underlying51 hv
  rw [cellsLArena] at hsz
  obtain ⟨fuel, hf⟩ := h
  obtain ⟨y0, n, _, hl, h0⟩ := trod_struct1 Try.underlying51 hf
  simp only [Value.cells] at h0 hl
  obtain ⟨c, hc⟩ : ∃ c, cs.toList = [c] := List.length_eq_one_iff.1 (by simpa using hsz)
  have hcs : cs = #[c] := by apply Array.ext'; exact hc
  subst hcs
  simp only [cellsLNodes, List.drop_zero, List.take_succ_cons, List.take_zero] at h0
  rcases open_slice Try.underlying49 h0 with ⟨hn, _⟩ | ⟨ad, len, cap, m, f, D, Pl, hn, _, hlc, hcm, hm, _, hel⟩
  · simp only [List.cons.injEq, and_true] at hn
    subst hn
    exact ⟨none, 0, [], rfl, by simp, .inl rfl, by simp⟩
  · simp only [List.cons.injEq, and_true] at hn
    subst hn
    simp only [if_true] at hm
    subst hm
    rw [cellsLNode] at hel
    have each : ∀ i, i < len → ∃ y : Nd, y.Fits ∧ W.cells? 0 (ad.add (i * 4)) 4 = some [.int .i64 y.k, .int .i64 y.n, .int .i64 y.a, .int .i64 y.b] := fun i hi => by
      obtain ⟨cs', h1, h2⟩ := hel i (by omega)
      obtain ⟨y, rfl, hfit⟩ := node_cells h2
      exact ⟨y, hfit, h1⟩
    obtain ⟨Y, hY⟩ := choose_lt each
    have hlen : ((List.range len).map Y).length = len := by simp
    have hget : ∀ i, i < len → ((List.range len).map Y).getD i Nd.zero = Y i := fun i hi => by
      rw [List.getD_eq_getElem?_getD, List.getElem?_map, List.getElem?_range hi]; rfl
    refine ⟨some ad, m, (List.range len).map Y, by rw [hlen], by rw [hlen]; omega, ?_, ?_⟩
    · rcases Nat.eq_zero_or_pos len with h00 | h00
      · exact .inl (by rw [h00]; rfl)
      · have key : ∀ i, i < len → ∀ j u, [Value.int .i64 (Y i).k, .int .i64 (Y i).n, .int .i64 (Y i).a, .int .i64 (Y i).b][j]? = some u → W.cell? ((ad.add (i * 4)).add j) = some u := fun i hi j u hu => by
          obtain ⟨_, hl4, hcell⟩ := World.cells?_some (hY i hi).2
          have hj : j < 4 := by
            have := (List.getElem?_eq_some_iff.1 hu).1
            simpa using this
          rw [hcell j hj]; exact hu
        obtain ⟨b, off, spot⟩ := ad
        have hc0 := key 0 h00 0 _ rfl
        have hspot : spot = none := by simpa [Addr.add] using World.cell?_spot hc0
        subst hspot
        have hadd : ∀ i j : Nat, ((⟨b, off, none⟩ : Addr).add i).add j = ⟨b, off + i + j, none⟩ := fun i j => by
          have e1 : (⟨b, off, none⟩ : Addr).add i = ⟨b, off + i, none⟩ := by unfold Addr.add; split <;> simp_all
          rw [e1]; unfold Addr.add; split <;> simp_all
        refine .inr ⟨b, off, rfl, ?_, fun i hi => ?_⟩
        · have := World.block_lt_of_cell? W _ hc0
          rw [hadd] at this; exact this
        · rw [hlen] at hi
          rw [hget i hi]
          have k0 := key i hi 0 _ rfl
          have k1 := key i hi 1 _ rfl
          have k2 := key i hi 2 _ rfl
          have k3 := key i hi 3 _ rfl
          rw [hadd] at k0 k1 k2 k3
          exact ⟨k0, k1, k2, k3⟩
    · intro y hy
      simp only [List.mem_map, List.mem_range] at hy
      obtain ⟨i, hi, rfl⟩ := hy
      exact (hY i hi).1
end Go.Proofs.Ytlmkkkpjcpopkaa

namespace Go.Proofs.Ytlmkkkpjcpopkaa
open Go.ChangeShapes Go.WideShapes Go.ChangeAt Go.RowKit Go.Joins Go.Deep
theorem cellsLHello : Try.prog.cellsOf 52 = 4 := by kernel_rfl
theorem helloSize : (Try.prog.info? 28).map (·.size) = some 4 := by kernel_rfl
set_option maxRecDepth 100000 in
theorem hello_cells {H : Type} {enc : TypeId × Value → H} {W : World} {base : Nat} {sp : Nat → Bool} {held : Bool} {fuel : Nat} {cs : List Value} {x : DataW H × List MemPlace} (h : DataW.trod enc Try.prog W base sp held fuel 52 cs = some x) :
    ∃ y : Nd, cs = [.int .i64 y.k, .int .i64 y.n, .int .i64 y.a, .int .i64 y.b] ∧ y.Fits := by
  obtain ⟨y0, y1, y2, y3, n, _, hl, h0, h1, h2, h3⟩ := trod_struct4 Try.underlying52 h
  rw [cellsLHello] at hl
  match cs, hl with
  | [c0, c1, c2, c3], _ =>
    simp only [cellsLInt, List.drop_zero, List.drop_succ_cons, List.take_succ_cons, List.take_zero] at h0 h1 h2 h3
    obtain ⟨z0, e0, _, w0⟩ := DataW.trod_int Try.underlying3 h0
    obtain ⟨z1, e1, _, w1⟩ := DataW.trod_int Try.underlying3 h1
    obtain ⟨z2, e2, _, w2⟩ := DataW.trod_int Try.underlying3 h2
    obtain ⟨z3, e3, _, w3⟩ := DataW.trod_int Try.underlying3 h3
    simp only [List.cons.injEq, and_true] at e0 e1 e2 e3
    subst e0 e1 e2 e3
    exact ⟨⟨z0, z1, z2, z3⟩, rfl, bounds_i64 w0, bounds_i64 w1, bounds_i64 w2, bounds_i64 w3⟩
set_option maxRecDepth 100000 in
theorem hello_of {H : Type} {enc : TypeId × Value → H} {W : World} {base b0 : Nat} {sp : Nat → Bool} {held : Bool} {r : Reach} {v : Value} {d : DataW H} {p : List MemPlace} (hv : Value.okWide Try.prog W r b0 52 v) (h : DataW.Trod enc Try.prog W base sp held 52 v d p) :
    ∃ y : Nd, v = .agg #[.int .i64 y.k, .int .i64 y.n, .int .i64 y.a, .int .i64 y.b] ∧ y.Fits := by
  obtain ⟨cs, rfl, hsz⟩ := okWide_struct Try.underlying52 hv
  obtain ⟨fuel, hf⟩ := h
  obtain ⟨y, he, hfit⟩ := hello_cells hf
  refine ⟨y, ?_, hfit⟩
  congr 1
  apply Array.ext'
  exact he

theorem toHello_any (x : Nd) (w : World) :
    Calls Try.prog 30 #[.agg #[.int .i64 x.k, .int .i64 x.n, .int .i64 x.a, .int .i64 x.b]] w fun e w' => e = .returned (.agg #[.int .i64 x.k, .int .i64 x.n, .int .i64 x.a, .int .i64 x.b]) ∧ Below w.heap.size w w' := by
  go_enter Try.func30, Try.ntmps30
  go_wp2
  refine bodyPost_ret (results_cell_row rfl _ _ (w.heap.size + 1) 28 #[.int .i64 x.k, .int .i64 x.n, .int .i64 x.a, .int .i64 x.b] (0, 0) _ rfl ?_ Try.underlying28 rfl helloSize) rfl ?_
  · rw [heap_alloc_old _ _ (by simp)]
    have := heap_alloc_new (w.alloc (.cells #[.int .i64 x.k, .int .i64 x.n, .int .i64 x.a, .int .i64 x.b] 52)) (.cells #[.int .i64 x.k, .int .i64 x.n, .int .i64 x.a, .int .i64 x.b] 28)
    simpa using this
  · exact ⟨rfl, (((Below.refl _ _).alloc (Nat.le_refl _) _).alloc (by simp) _).alloc (by simp; omega) _⟩

theorem eqHello_any (x y : Nd) (w : World) :
    Calls Try.prog 34 #[.agg #[.int .i64 x.k, .int .i64 x.n, .int .i64 x.a, .int .i64 x.b], .agg #[.int .i64 y.k, .int .i64 y.n, .int .i64 y.a, .int .i64 y.b]] w fun e w' => e = .returned (.bool (decide (x = y))) ∧ Below w.heap.size w w' := by
  have HE := nd_eq x y
  by_cases h0 : x.k = y.k
  · by_cases h1 : x.n = y.n
    · by_cases h2 : x.a = y.a
      · by_cases h3 : x.b = y.b
        · have HV : Hid (decide (x = y) = true) := decide_eq_true (HE.mpr ⟨h0, h1, h2, h3⟩)
          clear HE
          go_enter Try.func34, Try.ntmps34
          go_wp2
          go_ret
          exact ⟨by rw [HV.out]; rfl, ((Below.refl _ _).alloc (Nat.le_refl _) _).alloc (by simp) _⟩
        · have HV : Hid (decide (x = y) = false) := decide_eq_false (fun h => h3 (HE.mp h).2.2.2)
          have h3' : (x.b != y.b) = true := by simp [h3]
          clear HE
          go_enter Try.func34, Try.ntmps34
          go_wp2
          go_ret
          exact ⟨by rw [HV.out]; rfl, ((Below.refl _ _).alloc (Nat.le_refl _) _).alloc (by simp) _⟩
      · have HV : Hid (decide (x = y) = false) := decide_eq_false (fun h => h2 (HE.mp h).2.2.1)
        have h3' : (x.a != y.a) = true := by simp [h2]
        clear HE
        go_enter Try.func34, Try.ntmps34
        go_wp2
        go_ret
        exact ⟨by rw [HV.out]; rfl, ((Below.refl _ _).alloc (Nat.le_refl _) _).alloc (by simp) _⟩
    · have HV : Hid (decide (x = y) = false) := decide_eq_false (fun h => h1 (HE.mp h).2.1)
      have h3' : (x.n != y.n) = true := by simp [h1]
      clear HE
      go_enter Try.func34, Try.ntmps34
      go_wp2
      go_ret
      exact ⟨by rw [HV.out]; rfl, ((Below.refl _ _).alloc (Nat.le_refl _) _).alloc (by simp) _⟩
  · have HV : Hid (decide (x = y) = false) := decide_eq_false (fun h => h0 (HE.mp h).1)
    have h3' : (x.k != y.k) = true := by simp [h0]
    clear HE
    go_enter Try.func34, Try.ntmps34
    go_wp2
    go_ret
    exact ⟨by rw [HV.out]; rfl, ((Below.refl _ _).alloc (Nat.le_refl _) _).alloc (by simp) _⟩
theorem Rst.ownC {B s i : Nat} {w w' : World} {v : Value} {ns : List Nd} (hr : Rst B s i w w') (h : OwnC B w v ns) : OwnC B w' v ns := by
  obtain ⟨a, cap, cp, e, ha, ho⟩ := h
  exact ⟨a, cap, cp, e, ha, hr.own ho⟩
theorem ownC_base {B B' : Nat} {w : World} {v : Value} {ns : List Nd} (h : OwnC B w v ns) (hle : B' ≤ B) : OwnC B' w v ns := by
  obtain ⟨a, cap, cp, e, ha, ho⟩ := h
  exact ⟨a, cap, cp, e, ha, OwnN.base ho hle⟩
theorem ownC_row {B : Nat} {w : World} {v : Value} {ns : List Nd} (h : OwnC B w v ns) : ∃ a cap, v = .slice a ns.length cap := by
  obtain ⟨a, cap, cp, e, ha, ho⟩ := h
  exact ⟨a, cap, e⟩
theorem own_storeC {B g : Nat} {w : World} {v u : Value} {cs : Array Value} {ns : List Nd} (h : OwnC B w v ns) (hg : w.heap[g]? = some (.cells cs 26 (0, 0))) : OwnC B (w.setCell ⟨g, 0, none⟩ u) v ns := by
  obtain ⟨a, cap, cp, e, ha, ho⟩ := h
  exact ⟨a, cap, cp, e, ha, own_store ho hg⟩
end Go.Proofs.Ytlmkkkpjcpopkaa

namespace Go.Proofs.Ytlmkkkpjcpopkaa
open Go.ChangeShapes Go.WideShapes Go.ChangeAt Go.RowKit

theorem codeIn_later {w w' : World} {a : Option Addr} {len : Nat} (h : CodeIn w.heap.size w a len) (hb : Below w.heap.size w w') : CodeIn w'.heap.size w' a len := by
  refine ⟨h.1, ?_⟩
  rcases h.2 with h0 | ⟨b, off, rfl, hbB, hc⟩
  · exact .inl h0
  · exact .inr ⟨b, off, rfl, Nat.lt_of_lt_of_le hbB hb.size, fun i hi => by
      obtain ⟨z, hz, h1⟩ := hc i hi
      exact ⟨z, (hb.cell (p := ⟨b, off + i, none⟩) hbB).trans hz, h1⟩⟩

theorem big_any (a : Option Addr) (len cap : Nat) (w : World) :
    Calls Try.prog 12 #[.slice a len cap] w fun e w' => e = .returned (.bool (decide ((1048576 : Int) < (len : Int)))) ∧ w = w' := by
  go_enter Try.func12, Try.ntmps12
  go_wp2
  go_ret
  exact ⟨rfl, rfl⟩

theorem code_of {H : Type} {enc : TypeId × Value → H} {W : World} {a0 : Option Addr} {len0 cap0 : Nat} {d0 : DataW H} {p0 : List MemPlace}
    (h0 : DataW.Trod enc Try.prog W 0 (fun _ => true) true 22 (.slice a0 len0 cap0) d0 p0) : len0 ≤ 1048576 → CodeIn W.heap.size W a0 len0 := by
  intro hsm
  refine ⟨hsm, ?_⟩
  obtain ⟨fuel, hf⟩ := h0
  rcases open_ints Try.underlying22 Try.underlying5 (by kernel_rfl) hf with ⟨hcs, _⟩ | ⟨x, l, c, zs, hcs, _, hl, hm, hz, _, hcell, hwz⟩
  · simp [Value.cells] at hcs
    exact .inl hcs.2.1
  · simp [Value.cells] at hcs
    obtain ⟨rfl, rfl, rfl⟩ := hcs
    rcases Nat.eq_zero_or_pos len0 with h0 | h0
    · exact .inl h0
    · obtain ⟨b, off, spot⟩ := x
      have hz' : zs.length = cap0 := by simpa using hz
      have hc0 := hcell 0 (by omega)
      have hspot : spot = none := by simpa [Addr.add] using World.cell?_spot hc0
      subst hspot
      refine .inr ⟨b, off, rfl, ?_, fun i hi => ?_⟩
      · have := World.block_lt_of_cell? W _ hc0
        simpa [Addr.add] using this
      · have hci := hcell i (by omega)
        have e : (⟨b, off, none⟩ : Addr).add i = ⟨b, off + i, none⟩ := by unfold Addr.add; split <;> simp_all
        rw [e] at hci
        have hb := range_u8 hwz i
        exact ⟨_, hci, by simpa [List.getD] using hb⟩

theorem infoInt : (Try.prog.info? 3).map (fun i => (i.zero, i.size, i.bytes)) = some (some (.int .i64 0), 1, 8) := by kernel_rfl

set_option maxHeartbeats 800000 in
set_option maxRecDepth 20000 in
theorem places_any (a : Option Addr) (len cap : Nat) (w : World) (hc : CodeIn w.heap.size w a len) :
    Calls Try.prog 43 #[.slice a len cap] w fun e w' => ∃ (g cp : Nat) (xs : List Nat), e = .returned (.slice (some ⟨g, 0, none⟩) 12 cp) ∧ xs.length = 12 ∧ (∀ x ∈ xs, x < 10000) ∧ w.heap.size ≤ g ∧ g < w'.heap.size ∧ (∀ i, i < 12 → w'.cell? ⟨g, i, none⟩ = some (.int .i64 ((xs.getD i 0 : Nat) : Int))) ∧ Below w.heap.size w w' := by
  obtain ⟨i0, hi, hz0, hz1, hz2⟩ := info_parts infoInt
  go_enter Try.func43, Try.ntmps43
  go_wp2_with fail
  refine (new_any a len cap _ hc).mono ?_
  rintro e w1 ⟨g, rfl, hc1, hb1⟩
  have hgl := hc1.2.1
  have hge := hc1.1
  go_wp2_with fail
  refine (byte_any w.heap.size g _ hc1).mono ?_
  rintro e w2 ⟨x0, rfl, _, _, hc2, hg2⟩
  have hb2 : Below w.heap.size w w2 := hb1.grown hg2 hb1.size (fun k hk => by cases hk; exact hge)
  have hgl2 : g < w2.heap.size := hc2.2.1
  clear hc hc1 hb1 hg2 hgl
  go_wp2
  go_loopw [4, 5] (fun v i wr => ∃ (k : Nat) (xs : List Nat), k ≤ 12 ∧ i = .int .i64 (k : Int) ∧ xs.length = k ∧ (∀ x ∈ xs, x < 10000) ∧ wr.ownsRow w2.heap.size 3 1 v k ((xs.map (fun x : Nat => (x : Int))).map (Value.int .i64)) ∧ Cur w.heap.size wr g ∧ w2.grownBy wr (some g))
    (fun _ i _ => 12 - (intOf i).toNat)
  case atStart => exact ⟨0, [], by omega, rfl, rfl, by simp, World.ownsRow_made _ _ _ (Nat.le_refl _) (by decide) rfl, hc2.grown ((Below.refl _ _).alloc (Nat.le_refl _) _), grown_below ((Below.refl _ _).alloc (Nat.le_refl _) _) _⟩
  case round =>
    obtain ⟨k, xs, hk, rfl, hxl, hxr, hown, hcr, hgr⟩ := hrel
    by_cases hlt : k < 12
    · have HX : Hid (∀ x ∈ xs, x < 10000) := hxr
      clear hxr
      go_wp2_with fail
      refine (below_any w.heap.size g 10000 _ (by omega) (by omega) hcr).mono ?_
      rintro e w3 ⟨x, rfl, hx, hc3, hg3⟩
      have hown1 := own_grown hown hg3 hgl2
      have hgr1 := grown_trans hgr hg3
      have hsz := hgr1.size
      clear hown hcr hgr hg3
      go_wp2_with (at_builtin; refine wpList_append_own _ rfl _ _ 40 rfl w2.heap.size 3 i0 (.int .i64 0) 1 8 Try.underlying40 hi hz0 hz1 hz2 rfl (by decide) _ _ _ rfl (hown1.alloc _) ⟨w3.heap.size, 0, none⟩ 1 1 [.int .i64 (x : Int)] rfl rfl ?c1 ?c2 ?c3 ?c4 ?c5 ?_)
      case c1 => exact cell_one_new _ _ _
      case c2 => first | rfl | (intro u hu; simp at hu; subst hu; rfl)
      case c3 => unfold maxLen; omega
      case c4 => omega
      case c5 => first | omega | (simp; omega)
      · intro v' w4 hown' hgrow _
        have ho : w4.ownsRow w2.heap.size 3 1 v' (k + 1) (((xs ++ [x]).map (fun x : Nat => (x : Int))).map (Value.int .i64)) := by rw [List.map_append, List.map_append, List.map_map]; exact hown'
        have hB : Below w2.heap.size w3 w4 := below_app hown1 (Below.refl _ _) hsz hgrow
        have hgr2 := grown_then hgr1 hB
        have hc4 := hc3.beyond hgl2 hB
        have HX2 : Hid (∀ y ∈ xs ++ [x], y < 10000) := fun y hy => by
          rcases List.mem_append.mp hy with hy | hy
          · exact HX.out y hy
          · simp at hy; omega
        clear hown' hgrow hown1 hc3 hgr1 hB HX
        go_wp2
        go_roundw
        case rel => exact ⟨k + 1, xs ++ [x], by omega, by go_num, by simp; omega, HX2.out, ho, hc4, hgr2⟩
        case measure => simp [intOf]; omega
    · obtain rfl : k = 12 := by omega
      have hbE : Below w.heap.size w wr := hb2.grown hgr hb2.size (fun k hk => by cases hk; exact hge)
      have HX : Hid (∀ x ∈ xs, x < 10000) := hxr
      clear hxr
      rcases hown.2 with ⟨_, h0⟩ | ⟨gv, cp, cur, rfl, hgv, hbv, _⟩
      · omega
      have hcells : ∀ i, i < 12 → wr.cell? ⟨gv, i, none⟩ = some (.int .i64 ((xs.getD i 0 : Nat) : Int)) := fun i hi12 => by
        have := hown.cells (g := gv) rfl i (.int .i64 ((xs.getD i 0 : Nat) : Int)) (by
          rw [List.getElem?_map, List.getElem?_map, List.getElem?_eq_getElem (by omega)]; simp [List.getD, List.getElem?_eq_getElem (show i < xs.length by omega)])
        have e : (⟨gv, 0, none⟩ : Addr).add i = ⟨gv, i, none⟩ := by unfold Addr.add; split <;> simp_all
        rw [e] at this; exact this
      have HC : Hid _ := hcells
      have hgl : gv < wr.heap.size := World.block_lt_of_cell? wr _ (hcells 0 (by omega))
      clear hcells
      go_wp2
      go_ret
      exact ⟨gv, cp, xs, rfl, hxl, HX.out, Nat.le_trans hb2.size hgv, hgl, HC.out, hbE⟩
end Go.Proofs.Ytlmkkkpjcpopkaa

namespace Go.Proofs.Ytlmkkkpjcpopkaa
open Go.ChangeShapes Go.WideShapes Go.ChangeAt Go.RowKit Go.Joins Go.Deep
set_option linter.unusedVariables false

set_option maxHeartbeats 800000 in
theorem toIntS_any (a : Option Addr) (cap : Nat) (xs : List Int) (w : World) (hl : xs.length ≤ 1048576) (hr : RowI w.heap.size w a xs) :
    Calls Try.prog 38 #[.slice a xs.length cap] w fun e w' => ∃ v, e = .returned v ∧ OwnInt w.heap.size w' v xs ∧ Below w.heap.size w w' := by
  obtain ⟨i0, hi, hz0, hz1, hz2⟩ := info_parts infoIntS
  have HR : Hid (RowI w.heap.size w a xs) := hr
  clear hr
  go_enter Try.func38, Try.ntmps38
  go_wp2_with (at_make; refine wpList_make_full _ rfl _ _ 40 rfl w.heap.size 3 i0 (.int .i64 0) 1 Try.underlying40 hi hz0 hz1 .i64 .i64 _ _ xs.length rfl rfl rfl rfl (by rw [hz2]; omega) (by unfold maxLen; omega) (Nat.le_refl _) ?_; intro w2 hown2 hgrow2)
  have hB2 : Below w.heap.size w w2 := (Below.refl _ _).grown hgrow2 (Nat.le_refl _) (by simp)
  clear hgrow2
  go_loopw [4] (fun i wr => ∃ (k : Nat) (ys : List Value), k ≤ xs.length ∧ i = .int .i64 (k : Int) ∧ wr.ownsRow w.heap.size 3 1 (.slice (some ⟨w.heap.size, 0, none⟩) xs.length xs.length) xs.length ys ∧ Hid (ys.take k = (xs.take k).map (Value.int .i64)) ∧ Below w.heap.size w wr)
    (fun i _ => xs.length - (intOf i).toNat)
  case atStart => exact ⟨0, _, Nat.zero_le _, rfl, hown2, (by show _ = _; simp), hB2⟩
  case round =>
    obtain ⟨k, ys, hk, rfl, ho, HT, hbr⟩ := hrel
    have hxl : ys.length = xs.length * 1 := ho.1
    by_cases hlt : k < xs.length
    · obtain ⟨b, off, rfl⟩ := HR.out.addr hlt
      obtain ⟨hb, c0⟩ := HR.out.at hbr hlt
      have hi0 : (0 : Int) ≤ (k : Int) := by omega
      have hi1 : (k : Int) < (xs.length : Int) := by omega
      have HC : Hid (xs.take (k + 1) = xs.take k ++ [xs.getD k 0]) := by
        show _ = _
        rw [List.take_succ_eq_append_getElem hlt, List.getD_eq_getElem?_getD, List.getElem?_eq_getElem hlt]; rfl
      generalize xs.getD k 0 = y at c0 HC
      obtain ⟨u0, e0⟩ : ∃ u, wr.cell? ⟨w.heap.size, k, none⟩ = some u := by rw [ho.cellAt k (by omega)]; exact ⟨_, List.getElem?_eq_getElem (by omega)⟩
      have f0 := ho.frozenAt k
      have HS : Hid _ := (ho.stored k (.int .i64 y)).1
      have HBE : Hid (Below w.heap.size w (wr.setCell ⟨w.heap.size, k, none⟩ (.int .i64 y))) := hbr.setCell (Nat.le_refl _) _
      have HT4 : Hid ((ys.set k (.int .i64 y)).take (k + 1) = (xs.take (k + 1)).map (Value.int .i64)) := by
        show _ = _
        rw [HC.out, List.map_append, ← HT.out]
        apply List.ext_getElem?
        intro q
        rw [List.getElem?_take]
        by_cases h1 : q < k
        · rw [if_pos (by omega), List.getElem?_append_left (by simp; omega), List.getElem?_set, if_neg (by omega), List.getElem?_take, if_pos h1]
        · by_cases h2 : q = k
          · subst h2
            rw [if_pos (by omega), List.getElem?_append_right (by simp; omega), List.getElem?_set, if_pos rfl, if_pos (by omega)]
            simp [Nat.min_eq_left (show q ≤ ys.length by omega)]
          · rw [if_neg (by omega)]
            symm
            apply List.getElem?_eq_none
            simp; omega
      clear ho hbr HT HC
      go_wp2
      go_roundw
      case rel => exact ⟨k + 1, _, by omega, by go_num, HS.out, HT4, HBE.out⟩
      case measure => simp [intOf]; omega
    · obtain rfl : k = xs.length := by omega
      have HE : Hid (ys = xs.map (Value.int .i64)) := by
        show _ = _
        have := HT.out
        rw [List.take_of_length_le (by omega), List.take_length] at this
        exact this
      clear HT
      go_wp2
      go_ret
      exact ⟨_, rfl, by unfold OwnInt; rw [← HE.out]; exact ho, hbr⟩

theorem ints_of {H : Type} {enc : TypeId × Value → H} {W : World} {a0 : Option Addr} {len0 cap0 : Nat} {d0 : DataW H} {p0 : List MemPlace}
    (h0 : DataW.Trod enc Try.prog W 0 (fun _ => true) true 40 (.slice a0 len0 cap0) d0 p0) : ∃ xs : List Int, len0 = xs.length ∧ xs.length ≤ maxLen ∧ RowI W.heap.size W a0 xs ∧ ∀ x ∈ xs, -9223372036854775808 ≤ x ∧ x ≤ 9223372036854775807 := by
  obtain ⟨fuel, hf⟩ := h0
  rcases open_ints Try.underlying40 Try.underlying3 (by kernel_rfl) hf with ⟨hcs, _⟩ | ⟨x, l, c, zs, hcs, _, hl, hm, hz, _, hcell, hwz⟩
  · simp [Value.cells] at hcs
    exact ⟨[], hcs.2.1, by simp, .inl rfl, by simp⟩
  · simp [Value.cells] at hcs
    obtain ⟨rfl, rfl, rfl⟩ := hcs
    have hz' : zs.length = cap0 := by simpa using hz
    have hlen : (zs.take len0).length = len0 := by rw [List.length_take]; omega
    refine ⟨zs.take len0, hlen.symm, by rw [hlen]; omega, ?_, fun y hy => ?_⟩
    · rcases Nat.eq_zero_or_pos len0 with h0 | h0
      · exact .inl (by rw [h0]; rfl)
      · obtain ⟨b, off, spot⟩ := x
        have hc0 := hcell 0 (by omega)
        have hspot : spot = none := by simpa [Addr.add] using World.cell?_spot hc0
        subst hspot
        refine .inr ⟨b, off, rfl, ?_, fun i hi => ?_⟩
        · have := World.block_lt_of_cell? W _ hc0
          simpa [Addr.add] using this
        · rw [hlen] at hi
          have hci := hcell i (by omega)
          have e : (⟨b, off, none⟩ : Addr).add i = ⟨b, off + i, none⟩ := by unfold Addr.add; split <;> simp_all
          rw [e] at hci
          rw [hci]
          simp [List.getD, hi]
    · exact bounds_i64 (hwz y (List.mem_of_mem_take hy))
/-- A row of integers that came in, below p. -/
structure InI (p : Nat) (a : Option Addr) (xs : List Int) (w : World) : Prop where
  le : p ≤ w.heap.size
  row : RowI p w a xs
theorem InI.next {p : Nat} {a : Option Addr} {xs : List Int} {w w' : World} (h : InI p a xs w) (hb : Below w.heap.size w w') : InI p a xs w' := ⟨Nat.le_trans h.le hb.size, h.row.later (hb.mono h.le)⟩
theorem InI.mark {p : Nat} {a : Option Addr} {xs : List Int} {w w' : World} {r : Option Nat} (h : InI p a xs w) (hg : w.grownBy w' r) (hne : ∀ g, r = some g → p ≤ g) : InI p a xs w' := by
  refine ⟨Nat.le_trans h.le hg.size, ?_⟩
  rcases h.row with h0 | ⟨b, off, e, hlt, hc⟩
  · exact .inl h0
  · refine .inr ⟨b, off, e, hlt, fun i hi => ?_⟩
    have hn : r ≠ some b := fun e => by have := hne b e; omega
    exact cell_grown hg (Nat.lt_of_lt_of_le hlt h.le) hn (hc i hi)
theorem InI.all {p : Nat} {a : Option Addr} {xs : List Int} {w : World} (h : InI p a xs w) : RowI w.heap.size w a xs := h.row.wide h.le
theorem markIntS_from (base : Nat) (k : Int) (v : Value) (xs : List Int) (w : World) (hn : xs.length ≤ 2097152) (hk0 : 0 ≤ k) (hk : k ≤ 1000000000) (hown : OwnInt base w v xs) :
    Calls Try.prog 40 #[v, .int .i64 k] w fun e w' => e = .returned (.int .i64 (k + (xs.length : Int))) ∧ w.grownBy w' v.ownBlock := by
  obtain ⟨n, rfl⟩ := Int.eq_ofNat_of_zero_le hk0
  refine (markIntS_any base n v xs w hn (by omega) hown).mono ?_
  rintro e w' ⟨rfl, _, h⟩
  exact ⟨rfl, h⟩
end Go.Proofs.Ytlmkkkpjcpopkaa
