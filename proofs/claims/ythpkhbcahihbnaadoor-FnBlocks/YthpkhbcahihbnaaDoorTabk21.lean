/- The table of the rounds' words (chapter 21) in memory, from what the row lists. -/
import Derived.Test.YthpkhbcahihbnaaDoorRows
import Derived.Test.YthpkhbcahihbnaaDoorTab21
import Derived.Test.YthpkhbcahihbnaaDoorSha21
import Derived.Deep.MidRow
namespace Go.Proofs.YthpkhbcahihbnaaDoor
open Go.RowKit Go.PlainAid
set_option maxRecDepth 20000
set_option linter.unusedVariables false
set_option linter.unusedSimpArgs false
def keysF : Nat → Nat := fun i => keys.getD i 0
theorem keysW : Words keysF := fun i => getD_lt keys_lt i
theorem sizeKeys : (Tryd.prog.info? 52).map (·.size) = some 64 := by kernel_rfl
theorem sizeKeysV (f : Nat → Nat) : (Tryd.prog.info? 52).map (·.size) = some (rowV .u32 64 f).size := by rw [rowV_size]; exact sizeKeys
def KeysHere (W : World) : Prop := ∃ t fr, W.heap[1]? = some (.cells (rowV .u32 64 keysF) t fr)
theorem KeysHere.next {B : Nat} {w w' : World} (h : KeysHere w) (hb : Below B w w') (hB : 1 < B) : KeysHere w' := by
  obtain ⟨t, fr, h⟩ := h
  exact ⟨t, fr, (hb.block _ hB).trans h⟩
theorem KeysHere.lt {w : World} (h : KeysHere w) : 1 < w.heap.size := by
  obtain ⟨t, fr, h⟩ := h
  exact (Array.getElem?_eq_some_iff.1 h).1
theorem gKeys : Tryd.prog.globalNamed "loop.example/g00466/impl.roundWords" = some 1 := by kernel_rfl
theorem gKeysType : (Tryd.prog.globals[1]?).map (·.type) = some 52 := by kernel_rfl
theorem cellsKeys : Tryd.prog.cellsOf 52 = 64 := by kernel_rfl
def keysTab : List Int := keys.map fun x => ((x : Nat) : Int)
theorem keysEq {H : Type} : (Rows.laid_loop_example_g00466_impl_roundWords : DataW H) = Lib.tabData .u32 keysTab := by kernel_rfl
theorem keysRow : (keysTab.map (Value.int .u32)).toArray = rowV .u32 64 keysF := by
  have h : ∀ i, i < 64 → (keysTab.map (Value.int .u32))[i]? = some (.int .u32 ((keysF i : Nat) : Int)) := by
    intro i hi
    have hl : keys.length = 64 := by rfl
    unfold keysTab keysF
    rw [List.getElem?_map, List.getElem?_map, List.getD_eq_getElem?_getD, List.getElem?_eq_getElem (by omega)]
    rfl
  apply Array.ext_getElem?
  intro i
  by_cases hi : i < 64
  · rw [rowV_get _ _ hi, List.getElem?_toArray, h i hi]
  · rw [Array.getElem?_eq_none (by simp [keysTab]; have hl : keys.length = 64 := by rfl
                                   omega), Array.getElem?_eq_none (by rw [rowV_size]; omega)]
theorem keysHere_of {W : World} {l : List (String × DataW Unit)} (h : laidMetH Tryd.prog l W)
    (hf : (l.filter (fun x => x.1 == "loop.example/g00466/impl.roundWords")) = [("loop.example/g00466/impl.roundWords", Rows.laid_loop_example_g00466_impl_roundWords)]) : KeysHere W := by
  have h1 : laidMetH Tryd.prog (l.filter (fun x => x.1 == "loop.example/g00466/impl.roundWords")) W := h.filter _
  rw [hf, keysEq] at h1
  have h2 : Lib.TabIs Tryd.prog W "loop.example/g00466/impl.roundWords" .u32 keysTab := Lib.tabIs_of_head (rest := []) gKeys gKeysType Tryd.underlying52 Tryd.underlying39 cellsWord cellsKeys h1
  unfold Lib.TabIs World.var? at h2
  rw [gKeys, Option.bind_some] at h2
  split at h2
  · rename_i cs t fr hh
    rw [Option.some.injEq, keysRow] at h2
    subst h2
    exact ⟨t, fr, hh⟩
  · cases h2
/-- An element of an array of words by value. -/
theorem partV (f : Nat → Nat) {n k : Nat} (hk : k < n) (w : World) : (part 39 (rowV .u32 n f) k).run Tryd.prog w = .ok (.int .u32 ((f k : Nat) : Int)) w := by
  simp only [part, Sem.run_bind, isAgg, run_underlying Tryd.underlying39, Sem.run_pure, Result.andThen_ok, rowV_get .u32 f hk]
  rfl
theorem indexV (T : TypeId) (n : Nat) (hT : Tryd.prog.underlying T = some (.array n 39)) (f : Nat → Nat) {k : Nat} (hk : k < n) (w : World) : (Instr.index T (.agg (rowV .u32 n f)) (.int .i64 (k : Int))).run Tryd.prog w = .ok (.int .u32 ((f k : Nat) : Int)) w := by
  have h1 : (0 : Int) ≤ (k : Int) ∧ (k : Int) < (n : Int) := by omega
  simp only [Instr.index, asIntOf, Sem.run_bind, Sem.run_pure, Result.andThen_ok, run_underlying hT, if_pos h1, Tryd.sizeOf39, Nat.mul_one, Int.toNat_natCast]
  exact partV f hk w
theorem rangeV {w : World} {g n : Nat} {t : TypeId} {k : IntKind} {f : Nat → Nat} (h : RowAt w g t k n f) : w.rangeAt g 0 (rowV k n f).toList := by
  intro j v hv
  rw [Nat.zero_add]
  rw [Array.getElem?_toList] at hv
  rw [cell_of_row _ _ _ _ _ _ h]
  exact hv
end Go.Proofs.YthpkhbcahihbnaaDoor
