/- slices.Clone over whole numbers. -/
import Derived.Test.YthpkhbcahihbnaaDoorLawI
import Derived.WalkKit
import Derived.WalkLawsBesides
import Derived.WalkSpells
import Derived.OwnWalk
import Derived.Laws.OwnMore
import Derived.Lib.Strings
namespace Go.Proofs.YthpkhbcahihbnaaDoor
open Go.RowKit
set_option maxRecDepth 20000
set_option linter.unusedVariables false
theorem RowI.adds {w : World} {b off : Nat} {xs : List Int} (h : RowI w.heap.size w (some ⟨b, off, none⟩) xs) : ∀ j u, (xs.map (Value.int .i64))[j]? = some u → w.cell? ((⟨b, off, none⟩ : Addr).add j) = some u := by
  intro j u hu
  rcases Nat.lt_or_ge j xs.length with hj | hj
  · rw [List.getElem?_map, List.getElem?_eq_getElem hj] at hu
    have e : (⟨b, off, none⟩ : Addr).add j = ⟨b, off + j, none⟩ := by unfold Addr.add; split <;> simp_all
    have hc := (h.at (Below.refl _ _) hj).2
    rw [List.getD_eq_getElem?_getD, List.getElem?_eq_getElem hj] at hc
    rw [e, hc]
    exact hu
  · rw [List.getElem?_eq_none (by simpa using hj)] at hu; cases hu
theorem RowI.adds_later {w w' : World} {b off : Nat} {xs : List Int} (h : RowI w.heap.size w (some ⟨b, off, none⟩) xs) (hb : Below w.heap.size w w') : ∀ j u, (xs.map (Value.int .i64))[j]? = some u → w'.cell? ((⟨b, off, none⟩ : Addr).add j) = some u := (h.grown hb).adds
set_option maxHeartbeats 800000 in
/-- slices.Clone over whole numbers. -/
theorem cloneI_any (a : Option Addr) (cap : Nat) (xs : List Int) (w : World) (hl : xs.length ≤ 1048576) (ha : AddrN a cap) (hr : RowI w.heap.size w a xs) :
    Calls Tryd.prog 21 #[.slice a xs.length cap] w fun e w' => ∃ v, e = .returned v ∧ OwnInt w.heap.size w' v xs ∧ Below w.heap.size w w' := by
  obtain ⟨i0, hi, hz0, hz1, hz2⟩ := info_parts infoIntS
  have HR : Hid (RowI w.heap.size w a xs) := hr
  clear hr
  have HB0 : Hid (Below w.heap.size w (w.alloc (.cells #[] 3))) := (Below.refl _ _).alloc (Nat.le_refl _) _
  have HO : Hid (OwnInt w.heap.size (w.alloc (.cells #[] 3)) (.slice (some ⟨w.heap.size, 0, none⟩) 0 0) []) := World.ownsRow_made _ _ _ (Nat.le_refl _) (by decide) rfl
  rcases ha with ⟨rfl, rfl⟩ | ⟨b, off, rfl⟩
  · rcases HR.out with h0 | ⟨_, _, e, _⟩
    · subst h0
      have hq := Lib.run_eql_slice_nil (P := Tryd.prog) w 26 _ none 0 0 0 0 Tryd.underlying26
      go_enter Tryd.func21, Tryd.ntmps21
      go_wp2
      go_ret
      exact ⟨_, rfl, ⟨rfl, .inl ⟨rfl, rfl⟩⟩, Below.refl _ _⟩
    · cases e
  · have hq := Lib.run_eql_slice_nil (P := Tryd.prog) w 26 _ (some ⟨b, off, none⟩) xs.length cap 0 0 Tryd.underlying26
    go_enter Tryd.func21, Tryd.ntmps21
    go_wp2_with (at_builtin; refine wpList_append_own _ rfl _ _ 26 rfl w.heap.size 3 i0 (.int .i64 0) 1 8 Tryd.underlying26 hi hz0 hz1 hz2 rfl (by decide) _ 0 _ rfl HO.out ⟨b, off, none⟩ xs.length cap (xs.map (Value.int .i64)) rfl (by simp) ?c1 ?c2 ?c3 ?c4 ?c5 ?_)
    case c1 => exact HR.out.adds_later HB0.out
    case c2 => intro u hu; obtain ⟨x, _, rfl⟩ := List.mem_map.1 hu; rfl
    case c3 => unfold maxLen; omega
    case c4 => omega
    case c5 => simp
    · intro v' w2 hown' hgrow _
      have HO2 : Hid (OwnInt w.heap.size w2 v' xs) := by
        show OwnInt w.heap.size w2 v' xs
        unfold OwnInt; simpa using hown'
      have HB2 : Hid (Below w.heap.size w w2) := HB0.out.grown hgrow (by simp) (fun k hk => by simp [Value.ownBlock] at hk; omega)
      clear hown' hgrow HO HB0 HR
      go_wp2
      go_ret
      exact ⟨_, rfl, HO2.out, HB2.out⟩
end Go.Proofs.YthpkhbcahihbnaaDoor
