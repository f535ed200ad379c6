/- Rows of bytes that a call makes, as strings; a builder's blocks over what comes behind. -/
import Derived.Test.YtopdjfgomclffaaProg
import Derived.Test.YtopdjfgomclffaaArrW
import Derived.Test.YtopdjfgomclffaaPlain
import Derived.Laws.MakeOwn
import Derived.Laws.BytesArg
import Derived.Laws.OwnMore
import Derived.Lib.Builder
import Derived.Lib.Strings
import Derived.PlainAid
namespace Go.Proofs.Ytopdjfgomclffaa
open Go.RowKit Go.PlainAid
set_option linter.unusedVariables false
set_option linter.unusedSimpArgs false
/-- The first n numbers of a row. -/
def bytesV (n : Nat) (f : Nat → Nat) : List Int := (List.range n).map fun i => ((f i : Nat) : Int)
theorem bytesV_len (n : Nat) (f : Nat → Nat) : (bytesV n f).length = n := by simp [bytesV]
theorem bytesV_get {n i : Nat} (f : Nat → Nat) (h : i < n) : (bytesV n f).getD i 0 = ((f i : Nat) : Int) := by
  simp [bytesV, List.getD, List.getElem?_map, List.getElem?_range h]
theorem bytesV_succ (n : Nat) (f : Nat → Nat) : bytesV (n + 1) f = bytesV n f ++ [((f n : Nat) : Int)] := by
  simp [bytesV, List.range_succ]
theorem bytesV_ext {n : Nat} {f g : Nat → Nat} (h : ∀ i, i < n → f i = g i) : bytesV n f = bytesV n g := by
  unfold bytesV
  apply List.map_congr_left
  intro i hi
  rw [h i (List.mem_range.1 hi)]
theorem conv_row {w : World} {g n c : Nat} {t : TypeId} {f : Nat → Nat} (h : RowAt w g t .u8 n f) :
    (convert 22 9 (.slice (some ⟨g, 0, none⟩) n c)).run Try.prog w = .ok (.string (strOfNums (bytesV n f))) w := by
  refine run_convert_bytes_arg _ 22 5 Try.underlying22 Try.underlying5 g 0 n c (bytesV n f) (bytesV_len n f) ?_ 9 Try.underlying9
  intro i hi
  rw [Nat.zero_add, h.cell hi, bytesV_get f hi]
theorem made_row (k : IntKind) (n : Nat) : madeCells #[.int k 0] n = rowV k n (fun _ => 0) := by
  apply Array.ext_getElem?
  intro j
  by_cases hj : j < n
  · rw [rowV_get k _ hj]
    simp [madeCells, hj, Nat.mod_one]
  · rw [Array.getElem?_eq_none (by rw [size_madeCells]; omega), Array.getElem?_eq_none (by rw [rowV_size]; omega)]
theorem infoU8 : (Try.prog.info? 5).map (fun i => (i.zero, i.size, i.bytes)) = some (some (.int .u8 0), 1, 1) := by kernel_rfl
theorem info_u8 : ∃ i, Try.prog.info? 5 = some i ∧ i.zero = some (.int .u8 0) ∧ i.size = 1 ∧ i.bytes = 1 := by
  have h : (Try.prog.info? 5).map (fun i => (i.zero, i.size, i.bytes)) = some (some (.int .u8 0), 1, 1) := by kernel_rfl
  cases hi : Try.prog.info? 5 with
  | none => rw [hi] at h; cases h
  | some i =>
    rw [hi] at h
    simp only [Option.map_some, Option.some.injEq, Prod.mk.injEq] at h
    exact ⟨i, rfl, h.1, h.2.1, h.2.2⟩
/-- make([]byte, n). -/
theorem run_mkB (w : World) (n : Nat) (hn : n ≤ 4294967296) : (Instr.makeSlice 22 (.int .i64 (n : Int)) (.int .i64 (n : Int))).run Try.prog w =
    .ok (.slice (some ⟨w.heap.size, 0, none⟩) n n) (w.alloc (.cells (rowV .u8 n (fun _ => 0)) 5)) := by
  obtain ⟨i, hi, hz, hs, hb⟩ := info_u8
  have h := run_make (P := Try.prog) w 22 5 i (.int .u8 0) Try.underlying22 hi hz .i64 .i64 (n : Int) (n : Int) (by omega) (Int.le_refl _) (by rw [hb]; omega) (by omega)
  rw [h]
  simp only [Int.toNat_natCast, hs, Nat.mul_one]
  rw [show Value.cells (.int .u8 0) = #[.int .u8 0] from rfl, made_row]
/-- The bytes of a number, the lowest first. -/
def lowB (x : Nat) : Nat → Nat := fun i => x / 2 ^ (8 * i) % 256
theorem own_keep {B : Nat} {w w' : World} {v : Value} {e s n : Nat} {xs : List Value} (h : w.ownsRow B e s v n xs) (hb : Below w.heap.size w w') : w'.ownsRow B e s v n xs := by
  rcases h.2 with ⟨rfl, h0⟩ | ⟨g, cap, cur, rfl, hg, hb', hc, hm, hsz, htake⟩
  · exact ⟨h.1, .inl ⟨rfl, h0⟩⟩
  · exact ⟨h.1, .inr ⟨g, cap, cur, rfl, hg, (hb.block g (Array.getElem?_eq_some_iff.1 hb').1).trans hb', hc, hm, hsz, htake⟩⟩
theorem bd_keep {T e B b : Nat} {bs : List Value} {w w' : World} (h : Lib.IsBuilder T e B b bs w) (hb : Below w.heap.size w w') : Lib.IsBuilder T e B b bs w' := by
  have K : ∀ p, Lib.BuilderAt T e B b p bs w → Lib.BuilderAt T e B b p bs w' := by
    rintro p ⟨h1, v, h2, h3, h4⟩
    exact ⟨h1, v, (hb.block b (Array.getElem?_eq_some_iff.1 h2).1).trans h2, own_keep h3 hb, h4⟩
  rcases h with h | h
  · exact .inl (K _ h)
  · exact .inr (K _ h)
theorem strCells_nums {xs : List Int} (hr : ∀ x ∈ xs, 0 ≤ x ∧ x ≤ 255) : Lib.strCells (strOfNums xs) = xs.map (Value.int .u8) := by
  unfold Lib.strCells
  rw [strOfNums_data, List.map_map]
  apply List.map_congr_left
  intro x hx
  have := hr x hx
  simp only [Function.comp, UInt8.toNat_ofNat']
  congr 1
  omega
end Go.Proofs.Ytopdjfgomclffaa
