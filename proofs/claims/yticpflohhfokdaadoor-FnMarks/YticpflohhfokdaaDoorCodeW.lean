/- What every law that draws from a code shares: the code in memory, that it is not too long, twelve drawn numbers. -/
import Derived.Test.YticpflohhfokdaaDoorCurW
import Derived.WalkKit
import Derived.WalkLawsBesides
import Derived.WalkSpells
import Derived.OpenShut
import Derived.ChangeOld
import Derived.Below
import Derived.ProofKit
namespace Go.Proofs.YticpflohhfokdaaDoor
open Go.ChangeShapes Go.WideShapes Go.ChangeAt Go.RowKit

theorem codeIn_later {w w' : World} {a : Option Addr} {len : Nat} (h : CodeIn w.heap.size w a len) (hb : Below w.heap.size w w') : CodeIn w'.heap.size w' a len := by
  refine ⟨h.1, ?_⟩
  rcases h.2 with h0 | ⟨b, off, rfl, hbB, hc⟩
  · exact .inl h0
  · exact .inr ⟨b, off, rfl, Nat.lt_of_lt_of_le hbB hb.size, fun i hi => by
      obtain ⟨z, hz, h1⟩ := hc i hi
      exact ⟨z, (hb.cell (p := ⟨b, off + i, none⟩) hbB).trans hz, h1⟩⟩

theorem big_any (a : Option Addr) (len cap : Nat) (w : World) :
    Calls Tryd.prog 4 #[.slice a len cap] w fun e w' => e = .returned (.bool (decide ((1048576 : Int) < (len : Int)))) ∧ w = w' := by
  go_enter Tryd.func4, Tryd.ntmps4
  go_wp2
  go_ret
  exact ⟨rfl, rfl⟩

theorem code_of {H : Type} {enc : TypeId × Value → H} {W : World} {a0 : Option Addr} {len0 cap0 : Nat} {d0 : DataW H} {p0 : List MemPlace}
    (h0 : DataW.Trod enc Tryd.prog W 0 (fun _ => true) true 22 (.slice a0 len0 cap0) d0 p0) : len0 ≤ 1048576 → CodeIn W.heap.size W a0 len0 := by
  intro hsm
  refine ⟨by omega, ?_⟩
  obtain ⟨fuel, hf⟩ := h0
  rcases open_ints Tryd.underlying22 Tryd.underlying5 (by kernel_rfl) hf with ⟨hcs, _⟩ | ⟨x, l, c, zs, hcs, _, hl, hm, hz, _, hcell, hwz⟩
  · simp [Value.cells] at hcs
    exact .inl hcs.2.1
  · simp [Value.cells] at hcs
    obtain ⟨rfl, rfl, rfl⟩ := hcs
    rcases Nat.eq_zero_or_pos len0 with h0 | h0
    · exact .inl h0
    · obtain ⟨b, off, spot⟩ := x
      have hz' : zs.length = cap0 := by simpa using hz
      have hc0 := hcell 0 (by omega)
      have hspot : spot = none := by simpa [Addr.add] using World.cell?_spot hc0
      subst hspot
      refine .inr ⟨b, off, rfl, ?_, fun i hi => ?_⟩
      · have := World.block_lt_of_cell? W _ hc0
        simpa [Addr.add] using this
      · have hci := hcell i (by omega)
        have e : (⟨b, off, none⟩ : Addr).add i = ⟨b, off + i, none⟩ := by unfold Addr.add; split <;> simp_all
        rw [e] at hci
        have hb := range_u8 hwz i
        exact ⟨_, hci, by simpa [List.getD] using hb⟩

theorem infoInt : (Tryd.prog.info? 3).map (fun i => (i.zero, i.size, i.bytes)) = some (some (.int .i64 0), 1, 8) := by kernel_rfl

set_option maxHeartbeats 800000 in
set_option maxRecDepth 20000 in
theorem places_any (a : Option Addr) (len cap : Nat) (w : World) (hc : CodeIn w.heap.size w a len) :
    Calls Tryd.prog 5 #[.slice a len cap] w fun e w' => ∃ (g cp : Nat) (xs : List Nat), e = .returned (.slice (some ⟨g, 0, none⟩) 12 cp) ∧ xs.length = 12 ∧ (∀ x ∈ xs, x < 10000) ∧ w.heap.size ≤ g ∧ g < w'.heap.size ∧ (∀ i, i < 12 → w'.cell? ⟨g, i, none⟩ = some (.int .i64 ((xs.getD i 0 : Nat) : Int))) ∧ Below w.heap.size w w' := by
  obtain ⟨i0, hi, hz0, hz1, hz2⟩ := info_parts infoInt
  go_enter Tryd.func5, Tryd.ntmps5
  go_wp2_with fail
  refine (new_any a len cap _ hc).mono ?_
  rintro e w1 ⟨g, rfl, hc1, hb1⟩
  have hgl := hc1.2.1
  have hge := hc1.1
  go_wp2_with fail
  refine (byte_any w.heap.size g _ hc1).mono ?_
  rintro e w2 ⟨x0, rfl, _, _, hc2, hg2⟩
  have hb2 : Below w.heap.size w w2 := hb1.grown hg2 hb1.size (fun k hk => by cases hk; exact hge)
  have hgl2 : g < w2.heap.size := hc2.2.1
  clear hc hc1 hb1 hg2 hgl
  go_wp2
  go_loopw [4, 5] (fun v i wr => ∃ (k : Nat) (xs : List Nat), k ≤ 12 ∧ i = .int .i64 (k : Int) ∧ xs.length = k ∧ (∀ x ∈ xs, x < 10000) ∧ wr.ownsRow w2.heap.size 3 1 v k ((xs.map (fun x : Nat => (x : Int))).map (Value.int .i64)) ∧ Cur w.heap.size wr g ∧ w2.grownBy wr (some g))
    (fun _ i _ => 12 - (intOf i).toNat)
  case atStart => exact ⟨0, [], by omega, rfl, rfl, by simp, World.ownsRow_made _ _ _ (Nat.le_refl _) (by decide) rfl, hc2.grown ((Below.refl _ _).alloc (Nat.le_refl _) _), grown_below ((Below.refl _ _).alloc (Nat.le_refl _) _) _⟩
  case round =>
    obtain ⟨k, xs, hk, rfl, hxl, hxr, hown, hcr, hgr⟩ := hrel
    by_cases hlt : k < 12
    · have HX : Hid (∀ x ∈ xs, x < 10000) := hxr
      clear hxr
      go_wp2_with fail
      refine (below_any w.heap.size g 10000 _ (by omega) (by omega) hcr).mono ?_
      rintro e w3 ⟨x, rfl, hx, hc3, hg3⟩
      have hown1 := own_grown hown hg3 hgl2
      have hgr1 := grown_trans hgr hg3
      have hsz := hgr1.size
      clear hown hcr hgr hg3
      go_wp2_with (at_builtin; refine wpList_append_own _ rfl _ _ 24 rfl w2.heap.size 3 i0 (.int .i64 0) 1 8 Tryd.underlying24 hi hz0 hz1 hz2 rfl (by decide) _ _ _ rfl (hown1.alloc _) ⟨w3.heap.size, 0, none⟩ 1 1 [.int .i64 (x : Int)] rfl rfl ?c1 ?c2 ?c3 ?c4 ?c5 ?_)
      case c1 => exact cell_one_new _ _ _
      case c2 => first | rfl | (intro u hu; simp at hu; subst hu; rfl)
      case c3 => unfold maxLen; omega
      case c4 => omega
      case c5 => first | omega | (simp; omega)
      · intro v' w4 hown' hgrow _
        have ho : w4.ownsRow w2.heap.size 3 1 v' (k + 1) (((xs ++ [x]).map (fun x : Nat => (x : Int))).map (Value.int .i64)) := by rw [List.map_append, List.map_append, List.map_map]; exact hown'
        have hB : Below w2.heap.size w3 w4 := below_app hown1 (Below.refl _ _) hsz hgrow
        have hgr2 := grown_then hgr1 hB
        have hc4 := hc3.beyond hgl2 hB
        have HX2 : Hid (∀ y ∈ xs ++ [x], y < 10000) := fun y hy => by
          rcases List.mem_append.mp hy with hy | hy
          · exact HX.out y hy
          · simp at hy; omega
        clear hown' hgrow hown1 hc3 hgr1 hB HX
        go_wp2
        go_roundw
        case rel => exact ⟨k + 1, xs ++ [x], by omega, by go_num, by simp; omega, HX2.out, ho, hc4, hgr2⟩
        case measure => simp [intOf]; omega
    · obtain rfl : k = 12 := by omega
      have hbE : Below w.heap.size w wr := hb2.grown hgr hb2.size (fun k hk => by cases hk; exact hge)
      have HX : Hid (∀ x ∈ xs, x < 10000) := hxr
      clear hxr
      rcases hown.2 with ⟨_, h0⟩ | ⟨gv, cp, cur, rfl, hgv, hbv, _⟩
      · omega
      have hcells : ∀ i, i < 12 → wr.cell? ⟨gv, i, none⟩ = some (.int .i64 ((xs.getD i 0 : Nat) : Int)) := fun i hi12 => by
        have := hown.cells (g := gv) rfl i (.int .i64 ((xs.getD i 0 : Nat) : Int)) (by
          rw [List.getElem?_map, List.getElem?_map, List.getElem?_eq_getElem (by omega)]; simp [List.getD, List.getElem?_eq_getElem (show i < xs.length by omega)])
        have e : (⟨gv, 0, none⟩ : Addr).add i = ⟨gv, i, none⟩ := by unfold Addr.add; split <;> simp_all
        rw [e] at this; exact this
      have HC : Hid _ := hcells
      have hgl : gv < wr.heap.size := World.block_lt_of_cell? wr _ (hcells 0 (by omega))
      clear hcells
      go_wp2
      go_ret
      exact ⟨gv, cp, xs, rfl, hxl, HX.out, Nat.le_trans hb2.size hgv, hgl, HC.out, hbE⟩
end Go.Proofs.YticpflohhfokdaaDoor
