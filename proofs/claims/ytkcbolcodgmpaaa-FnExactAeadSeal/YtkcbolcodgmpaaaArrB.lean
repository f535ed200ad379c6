/- Rows of bytes that a call makes, as strings; a builder's blocks over what comes behind. -/
import Derived.Test.YtkcbolcodgmpaaaProg
import Derived.Test.YtkcbolcodgmpaaaArrW
import Derived.Test.YtkcbolcodgmpaaaPlain
import Derived.Laws.MakeOwn
import Derived.Laws.BytesArg
import Derived.Laws.OwnMore
import Derived.Lib.Builder
import Derived.Lib.Strings
import Derived.PlainAid
import Derived.Test.YtkcbolcodgmpaaaBitQ
namespace Go.Proofs.Ytkcbolcodgmpaaa
open Go.RowKit Go.PlainAid
set_option linter.unusedVariables false
set_option linter.unusedSimpArgs false
/-- The first n numbers of a row. -/
def bytesV (n : Nat) (f : Nat → Nat) : List Int := (List.range n).map fun i => ((f i : Nat) : Int)
theorem bytesV_len (n : Nat) (f : Nat → Nat) : (bytesV n f).length = n := by simp [bytesV]
theorem bytesV_get {n i : Nat} (f : Nat → Nat) (h : i < n) : (bytesV n f).getD i 0 = ((f i : Nat) : Int) := by
  simp [bytesV, List.getD, List.getElem?_map, List.getElem?_range h]
theorem bytesV_succ (n : Nat) (f : Nat → Nat) : bytesV (n + 1) f = bytesV n f ++ [((f n : Nat) : Int)] := by
  simp [bytesV, List.range_succ]
theorem bytesV_ext {n : Nat} {f g : Nat → Nat} (h : ∀ i, i < n → f i = g i) : bytesV n f = bytesV n g := by
  unfold bytesV
  apply List.map_congr_left
  intro i hi
  rw [h i (List.mem_range.1 hi)]
theorem conv_row {w : World} {g n c : Nat} {t : TypeId} {f : Nat → Nat} (h : RowAt w g t .u8 n f) :
    (convert 34 9 (.slice (some ⟨g, 0, none⟩) n c)).run Try.prog w = .ok (.string (strOfNums (bytesV n f))) w := by
  refine run_convert_bytes_arg _ 34 5 Try.underlying34 Try.underlying5 g 0 n c (bytesV n f) (bytesV_len n f) ?_ 9 Try.underlying9
  intro i hi
  rw [Nat.zero_add, h.cell hi, bytesV_get f hi]
theorem made_row (k : IntKind) (n : Nat) : madeCells #[.int k 0] n = rowV k n (fun _ => 0) := by
  apply Array.ext_getElem?
  intro j
  by_cases hj : j < n
  · rw [rowV_get k _ hj]
    simp [madeCells, hj, Nat.mod_one]
  · rw [Array.getElem?_eq_none (by rw [size_madeCells]; omega), Array.getElem?_eq_none (by rw [rowV_size]; omega)]
theorem infoU8 : (Try.prog.info? 5).map (fun i => (i.zero, i.size, i.bytes)) = some (some (.int .u8 0), 1, 1) := by kernel_rfl
theorem info_u8 : ∃ i, Try.prog.info? 5 = some i ∧ i.zero = some (.int .u8 0) ∧ i.size = 1 ∧ i.bytes = 1 := by
  have h : (Try.prog.info? 5).map (fun i => (i.zero, i.size, i.bytes)) = some (some (.int .u8 0), 1, 1) := by kernel_rfl
  cases hi : Try.prog.info? 5 with
  | none => rw [hi] at h; cases h
  | some i =>
    rw [hi] at h
    simp only [Option.map_some, Option.some.injEq, Prod.mk.injEq] at h
    exact ⟨i, rfl, h.1, h.2.1, h.2.2⟩
/-- make([]byte, n). -/
theorem run_mkB (w : World) (n : Nat) (hn : n ≤ 4294967296) : (Instr.makeSlice 34 (.int .i64 (n : Int)) (.int .i64 (n : Int))).run Try.prog w =
    .ok (.slice (some ⟨w.heap.size, 0, none⟩) n n) (w.alloc (.cells (rowV .u8 n (fun _ => 0)) 5)) := by
  obtain ⟨i, hi, hz, hs, hb⟩ := info_u8
  have h := run_make (P := Try.prog) w 34 5 i (.int .u8 0) Try.underlying34 hi hz .i64 .i64 (n : Int) (n : Int) (by omega) (Int.le_refl _) (by rw [hb]; omega) (by omega)
  rw [h]
  simp only [Int.toNat_natCast, hs, Nat.mul_one]
  rw [show Value.cells (.int .u8 0) = #[.int .u8 0] from rfl, made_row]
/-- The bytes of a number, the lowest first. -/
def lowB (x : Nat) : Nat → Nat := fun i => x / 2 ^ (8 * i) % 256
theorem own_keep {B : Nat} {w w' : World} {v : Value} {e s n : Nat} {xs : List Value} (h : w.ownsRow B e s v n xs) (hb : Below w.heap.size w w') : w'.ownsRow B e s v n xs := by
  rcases h.2 with ⟨rfl, h0⟩ | ⟨g, cap, cur, rfl, hg, hb', hc, hm, hsz, htake⟩
  · exact ⟨h.1, .inl ⟨rfl, h0⟩⟩
  · exact ⟨h.1, .inr ⟨g, cap, cur, rfl, hg, (hb.block g (Array.getElem?_eq_some_iff.1 hb').1).trans hb', hc, hm, hsz, htake⟩⟩
theorem bd_keep {T e B b : Nat} {bs : List Value} {w w' : World} (h : Lib.IsBuilder T e B b bs w) (hb : Below w.heap.size w w') : Lib.IsBuilder T e B b bs w' := by
  have K : ∀ p, Lib.BuilderAt T e B b p bs w → Lib.BuilderAt T e B b p bs w' := by
    rintro p ⟨h1, v, h2, h3, h4⟩
    exact ⟨h1, v, (hb.block b (Array.getElem?_eq_some_iff.1 h2).1).trans h2, own_keep h3 hb, h4⟩
  rcases h with h | h
  · exact .inl (K _ h)
  · exact .inr (K _ h)
theorem strCells_nums {xs : List Int} (hr : ∀ x ∈ xs, 0 ≤ x ∧ x ≤ 255) : Lib.strCells (strOfNums xs) = xs.map (Value.int .u8) := by
  unfold Lib.strCells
  rw [strOfNums_data, List.map_map]
  apply List.map_congr_left
  intro x hx
  have := hr x hx
  simp only [Function.comp, UInt8.toNat_ofNat']
  congr 1
  omega
end Go.Proofs.Ytkcbolcodgmpaaa

namespace Go.Proofs.Ytkcbolcodgmpaaa
open Go.RowKit Go.PlainAid
theorem cells_str (xs : List Int) (hr : ∀ x ∈ xs, 0 ≤ x ∧ x ≤ 255) : xs.map (Value.int .u8) = Lib.byteCells (strOfNums xs).data.toList := (strCells_nums hr).symm
theorem str_back (t : ByteArray) : (⟨t.data.toList.toArray⟩ : ByteArray) = t := by cases t; simp
end Go.Proofs.Ytkcbolcodgmpaaa

namespace Go.Proofs.Ytkcbolcodgmpaaa
open Go.RowKit
theorem mod_bit {x s t : Nat} : x % 2 ^ (s + (t + 1)) / 2 ^ s % 2 = x / 2 ^ s % 2 := by
  rw [Nat.pow_add, Nat.mod_mul_right_div_self, Nat.pow_succ, Nat.mod_mod_of_dvd _ ⟨2 ^ t, Nat.mul_comm _ _⟩]
theorem limb_bit {V i : Nat} (_h : i < 130) : limbN V (i / 26) / 2 ^ (i % 26) % 2 = V / 2 ^ i % 2 := by
  have hp : (2 : Nat) ^ i = 67108864 ^ (i / 26) * 2 ^ (i % 26) := by
    rw [show (67108864 : Nat) = 2 ^ 26 from rfl, ← Nat.pow_mul, ← Nat.pow_add]; congr 1; omega
  rw [hp, ← Nat.div_div_eq_div_mul]
  unfold limbN
  split
  · rename_i e
    rw [e]
  · rename_i e
    have h26 : i % 26 < 26 := Nat.mod_lt _ (by omega)
    generalize V / 67108864 ^ (i / 26) = x
    rw [show (67108864 : Nat) = 2 ^ (i % 26 + ((25 - i % 26) + 1)) by rw [show i % 26 + ((25 - i % 26) + 1) = 26 by omega]]
    exact mod_bit
theorem lv_lok {V : Nat} (h : V < 1361129467683753853853498429727072845824) : lok pb (lv V) := by
  refine ⟨?_, ?_, ?_, ?_, ?_, ?_, ?_, ?_, ?_, ?_, trivial⟩ <;> simp [limbN] <;> omega
theorem lok_lv {l : List Int} (h : lok pb l) : l = lv (lval pb l).toNat := by
  have h0 := lval_low h
  have h1 := lval_lt h
  rw [pb_all] at h1
  refine lval_inj h (lv_lok (by omega)) ?_
  rw [lv_val]; omega
/-- Byte number j of a number's first i bits, and of one bit more. -/
theorem by_lt (V i : Nat) : lowB (V % 2 ^ i) (i / 8) < 2 ^ (i % 8) := by
  unfold lowB
  have hp : (2 : Nat) ^ i = 2 ^ (8 * (i / 8)) * 2 ^ (i % 8) := by rw [← Nat.pow_add]; congr 1; omega
  have h := Nat.mod_lt V (show 0 < 2 ^ i from Nat.pow_pos (by decide))
  rw [hp] at h
  exact Nat.lt_of_le_of_lt (Nat.mod_le _ _) (Nat.div_lt_of_lt_mul (by rw [hp]; exact h))
theorem by_step (V i : Nat) : ∀ j, upd (lowB (V % 2 ^ i)) (i / 8) (lowB (V % 2 ^ i) (i / 8) + (V / 2 ^ i % 2) * 2 ^ (i % 8)) j = lowB (V % 2 ^ (i + 1)) j := by
  intro j
  have hs := mod_step V i
  have hVi := Nat.mod_lt V (show 0 < 2 ^ i from Nat.pow_pos (by decide))
  have hV1 := Nat.mod_lt V (show 0 < 2 ^ (i + 1) from Nat.pow_pos (by decide))
  have hb : V / 2 ^ i % 2 ≤ 1 := by omega
  by_cases e : j = i / 8
  · subst e
    rw [upd_same]
    have hlt := by_lt V i
    have hp : (2 : Nat) ^ i = 2 ^ (8 * (i / 8)) * 2 ^ (i % 8) := by rw [← Nat.pow_add]; congr 1; omega
    have h8 : (2 : Nat) ^ (i % 8) ≤ 128 := by
      have := Nat.pow_le_pow_right (show 0 < 2 by omega) (show i % 8 ≤ 7 by omega)
      omega
    have hd : V % 2 ^ i / 2 ^ (8 * (i / 8)) < 2 ^ (i % 8) := Nat.div_lt_of_lt_mul (by rw [← hp]; exact hVi)
    unfold lowB
    rw [hs]
    have hpp : (V / 2 ^ i % 2) * 2 ^ i = 2 ^ (8 * (i / 8)) * ((V / 2 ^ i % 2) * 2 ^ (i % 8)) := by
      rw [Nat.mul_left_comm, ← hp]
    rw [hpp, Nat.add_mul_div_left _ _ (Nat.pow_pos (by decide))]
    have hbb : (V / 2 ^ i % 2) * 2 ^ (i % 8) ≤ 1 * 2 ^ (i % 8) := Nat.mul_le_mul_right _ hb
    generalize (V / 2 ^ i % 2) * 2 ^ (i % 8) = y at hbb
    generalize V % 2 ^ i / 2 ^ (8 * (i / 8)) = x at hd
    omega
  · rw [upd_other _ _ e]
    unfold lowB
    rcases Nat.lt_or_gt_of_ne e with hj | hj
    · have hp : (2 : Nat) ^ i = 2 ^ (8 * j) * (256 * 2 ^ (i - 8 * j - 8)) := by
        rw [show (256 : Nat) = 2 ^ 8 from rfl, ← Nat.pow_add, ← Nat.pow_add]; congr 1; omega
      have hpp : (V / 2 ^ i % 2) * 2 ^ i = 2 ^ (8 * j) * (256 * ((V / 2 ^ i % 2) * 2 ^ (i - 8 * j - 8))) := by
        generalize V / 2 ^ i % 2 = b
        rw [hp, Nat.mul_left_comm b, Nat.mul_left_comm b]
      rw [hs, hpp, Nat.add_mul_div_left _ _ (Nat.pow_pos (by decide)), Nat.add_mul_mod_self_left]
    · have h1 : (2 : Nat) ^ (i + 1) ≤ 2 ^ (8 * j) := Nat.pow_le_pow_right (by omega) (by omega)
      have h2 : (2 : Nat) ^ i ≤ 2 ^ (i + 1) := Nat.pow_le_pow_right (by omega) (by omega)
      rw [Nat.div_eq_of_lt (by omega), Nat.div_eq_of_lt (by omega)]
theorem by_zero (V j : Nat) : lowB (V % 2 ^ 0) j = 0 := by unfold lowB; rw [Nat.pow_zero, Nat.mod_one, Nat.zero_div]
end Go.Proofs.Ytkcbolcodgmpaaa
