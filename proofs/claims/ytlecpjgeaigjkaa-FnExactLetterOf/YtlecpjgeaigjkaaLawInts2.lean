/- A row of integers as a law's argument: opened from the row's reading; and the law's helper that copies it (toIntS). -/
import Derived.Test.YtlecpjgeaigjkaaLawInts
import Derived.Test.YtlecpjgeaigjkaaArgArena
import Derived.Test.YtlecpjgeaigjkaaCodeW
namespace Go.Proofs.Ytlecpjgeaigjkaa
open Go.ChangeShapes Go.WideShapes Go.ChangeAt Go.RowKit Go.Joins Go.Deep
set_option linter.unusedVariables false

set_option maxHeartbeats 800000 in
theorem toIntS_any (a : Option Addr) (cap : Nat) (xs : List Int) (w : World) (hl : xs.length ≤ 1048576) (hr : RowI w.heap.size w a xs) :
    Calls Try.prog 20 #[.slice a xs.length cap] w fun e w' => ∃ v, e = .returned v ∧ OwnInt w.heap.size w' v xs ∧ Below w.heap.size w w' := by
  obtain ⟨i0, hi, hz0, hz1, hz2⟩ := info_parts infoIntS
  have HR : Hid (RowI w.heap.size w a xs) := hr
  clear hr
  go_enter Try.func20, Try.ntmps20
  go_wp2_with (at_make; refine wpList_make_full _ rfl _ _ 41 rfl w.heap.size 3 i0 (.int .i64 0) 1 Try.underlying41 hi hz0 hz1 .i64 .i64 _ _ xs.length rfl rfl rfl rfl (by rw [hz2]; omega) (by unfold maxLen; omega) (Nat.le_refl _) ?_; intro w2 hown2 hgrow2)
  have hB2 : Below w.heap.size w w2 := (Below.refl _ _).grown hgrow2 (Nat.le_refl _) (by simp)
  clear hgrow2
  go_loopw [4] (fun i wr => ∃ (k : Nat) (ys : List Value), k ≤ xs.length ∧ i = .int .i64 (k : Int) ∧ wr.ownsRow w.heap.size 3 1 (.slice (some ⟨w.heap.size, 0, none⟩) xs.length xs.length) xs.length ys ∧ Hid (ys.take k = (xs.take k).map (Value.int .i64)) ∧ Below w.heap.size w wr)
    (fun i _ => xs.length - (intOf i).toNat)
  case atStart => exact ⟨0, _, Nat.zero_le _, rfl, hown2, (by show _ = _; simp), hB2⟩
  case round =>
    obtain ⟨k, ys, hk, rfl, ho, HT, hbr⟩ := hrel
    have hxl : ys.length = xs.length * 1 := ho.1
    by_cases hlt : k < xs.length
    · obtain ⟨b, off, rfl⟩ := HR.out.addr hlt
      obtain ⟨hb, c0⟩ := HR.out.at hbr hlt
      have hi0 : (0 : Int) ≤ (k : Int) := by omega
      have hi1 : (k : Int) < (xs.length : Int) := by omega
      have HC : Hid (xs.take (k + 1) = xs.take k ++ [xs.getD k 0]) := by
        show _ = _
        rw [List.take_succ_eq_append_getElem hlt, List.getD_eq_getElem?_getD, List.getElem?_eq_getElem hlt]; rfl
      generalize xs.getD k 0 = y at c0 HC
      obtain ⟨u0, e0⟩ : ∃ u, wr.cell? ⟨w.heap.size, k, none⟩ = some u := by rw [ho.cellAt k (by omega)]; exact ⟨_, List.getElem?_eq_getElem (by omega)⟩
      have f0 := ho.frozenAt k
      have HS : Hid _ := (ho.stored k (.int .i64 y)).1
      have HBE : Hid (Below w.heap.size w (wr.setCell ⟨w.heap.size, k, none⟩ (.int .i64 y))) := hbr.setCell (Nat.le_refl _) _
      have HT4 : Hid ((ys.set k (.int .i64 y)).take (k + 1) = (xs.take (k + 1)).map (Value.int .i64)) := by
        show _ = _
        rw [HC.out, List.map_append, ← HT.out]
        apply List.ext_getElem?
        intro q
        rw [List.getElem?_take]
        by_cases h1 : q < k
        · rw [if_pos (by omega), List.getElem?_append_left (by simp; omega), List.getElem?_set, if_neg (by omega), List.getElem?_take, if_pos h1]
        · by_cases h2 : q = k
          · subst h2
            rw [if_pos (by omega), List.getElem?_append_right (by simp; omega), List.getElem?_set, if_pos rfl, if_pos (by omega)]
            simp [Nat.min_eq_left (show q ≤ ys.length by omega)]
          · rw [if_neg (by omega)]
            symm
            apply List.getElem?_eq_none
            simp; omega
      clear ho hbr HT HC
      go_wp2
      go_roundw
      case rel => exact ⟨k + 1, _, by omega, by go_num, HS.out, HT4, HBE.out⟩
      case measure => simp [intOf]; omega
    · obtain rfl : k = xs.length := by omega
      have HE : Hid (ys = xs.map (Value.int .i64)) := by
        show _ = _
        have := HT.out
        rw [List.take_of_length_le (by omega), List.take_length] at this
        exact this
      clear HT
      go_wp2
      go_ret
      exact ⟨_, rfl, by unfold OwnInt; rw [← HE.out]; exact ho, hbr⟩

theorem ints_of {H : Type} {enc : TypeId × Value → H} {W : World} {a0 : Option Addr} {len0 cap0 : Nat} {d0 : DataW H} {p0 : List MemPlace}
    (h0 : DataW.Trod enc Try.prog W 0 (fun _ => true) true 41 (.slice a0 len0 cap0) d0 p0) : ∃ xs : List Int, len0 = xs.length ∧ xs.length ≤ maxLen ∧ RowI W.heap.size W a0 xs ∧ ∀ x ∈ xs, -9223372036854775808 ≤ x ∧ x ≤ 9223372036854775807 := by
  obtain ⟨fuel, hf⟩ := h0
  rcases open_ints Try.underlying41 Try.underlying3 (by kernel_rfl) hf with ⟨hcs, _⟩ | ⟨x, l, c, zs, hcs, _, hl, hm, hz, _, hcell, hwz⟩
  · simp [Value.cells] at hcs
    exact ⟨[], hcs.2.1, by simp, .inl rfl, by simp⟩
  · simp [Value.cells] at hcs
    obtain ⟨rfl, rfl, rfl⟩ := hcs
    have hz' : zs.length = cap0 := by simpa using hz
    have hlen : (zs.take len0).length = len0 := by rw [List.length_take]; omega
    refine ⟨zs.take len0, hlen.symm, by rw [hlen]; omega, ?_, fun y hy => ?_⟩
    · rcases Nat.eq_zero_or_pos len0 with h0 | h0
      · exact .inl (by rw [h0]; rfl)
      · obtain ⟨b, off, spot⟩ := x
        have hc0 := hcell 0 (by omega)
        have hspot : spot = none := by simpa [Addr.add] using World.cell?_spot hc0
        subst hspot
        refine .inr ⟨b, off, rfl, ?_, fun i hi => ?_⟩
        · have := World.block_lt_of_cell? W _ hc0
          simpa [Addr.add] using this
        · rw [hlen] at hi
          have hci := hcell i (by omega)
          have e : (⟨b, off, none⟩ : Addr).add i = ⟨b, off + i, none⟩ := by unfold Addr.add; split <;> simp_all
          rw [e] at hci
          rw [hci]
          simp [List.getD, hi]
    · exact bounds_i64 (hwz y (List.mem_of_mem_take hy))
/-- A row of integers that came in, below p. -/
structure InI (p : Nat) (a : Option Addr) (xs : List Int) (w : World) : Prop where
  le : p ≤ w.heap.size
  row : RowI p w a xs
theorem InI.next {p : Nat} {a : Option Addr} {xs : List Int} {w w' : World} (h : InI p a xs w) (hb : Below w.heap.size w w') : InI p a xs w' := ⟨Nat.le_trans h.le hb.size, h.row.later (hb.mono h.le)⟩
theorem InI.mark {p : Nat} {a : Option Addr} {xs : List Int} {w w' : World} {r : Option Nat} (h : InI p a xs w) (hg : w.grownBy w' r) (hne : ∀ g, r = some g → p ≤ g) : InI p a xs w' := by
  refine ⟨Nat.le_trans h.le hg.size, ?_⟩
  rcases h.row with h0 | ⟨b, off, e, hlt, hc⟩
  · exact .inl h0
  · refine .inr ⟨b, off, e, hlt, fun i hi => ?_⟩
    have hn : r ≠ some b := fun e => by have := hne b e; omega
    exact cell_grown hg (Nat.lt_of_lt_of_le hlt h.le) hn (hc i hi)
theorem InI.all {p : Nat} {a : Option Addr} {xs : List Int} {w : World} (h : InI p a xs w) : RowI w.heap.size w a xs := h.row.wide h.le
theorem markIntS_from (base : Nat) (k : Int) (v : Value) (xs : List Int) (w : World) (hn : xs.length ≤ 2097152) (hk0 : 0 ≤ k) (hk : k ≤ 1000000000) (hown : OwnInt base w v xs) :
    Calls Try.prog 23 #[v, .int .i64 k] w fun e w' => e = .returned (.int .i64 (k + (xs.length : Int))) ∧ w.grownBy w' v.ownBlock := by
  obtain ⟨n, rfl⟩ := Int.eq_ofNat_of_zero_le hk0
  refine (markIntS_any base n v xs w hn (by omega) hown).mono ?_
  rintro e w' ⟨rfl, _, h⟩
  exact ⟨rfl, h⟩
end Go.Proofs.Ytlecpjgeaigjkaa
