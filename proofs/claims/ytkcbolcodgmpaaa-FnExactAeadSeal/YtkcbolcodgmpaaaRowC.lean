/- Rows of numbers in memory told cell by cell (what stands behind them, or is frozen there, is left open); bytes of a text as numbers. -/
import Derived.Test.YtkcbolcodgmpaaaArrB
import Derived.Test.YtkcbolcodgmpaaaBytes
import Derived.Lib.ConvBytes
import Derived.Laws.World
import Derived.Lib.Strings
import Derived.WalkKit
import Derived.WalkLawsBesides
import Derived.WalkSpells
namespace Go.Proofs.Ytkcbolcodgmpaaa
open Go.RowKit Go.PlainAid
set_option linter.unusedVariables false
/-- The first n cells of block g. -/
structure RowC (w : World) (g : Nat) (k : IntKind) (n : Nat) (f : Nat → Nat) : Prop where
  lt : g < w.heap.size
  c : ∀ i, i < n → w.cell? ⟨g, i, none⟩ = some (.int k ((f i : Nat) : Int))
  z : ∀ i, i < n → w.frozen? ⟨g, i, none⟩ = false
theorem RowAt.toC {w : World} {g n : Nat} {t : TypeId} {k : IntKind} {f : Nat → Nat} (h : RowAt w g t k n f) : RowC w g k n f := ⟨h.lt, fun i hi => h.cell hi, fun i _ => h.froz i⟩
theorem RowC.set {w : World} {g n i : Nat} {k : IntKind} {f : Nat → Nat} (h : RowC w g k n f) (hi : i < n) (x : Nat) : RowC (w.setCell ⟨g, i, none⟩ (.int k ((x : Nat) : Int))) g k n (upd f i x) := by
  refine ⟨by simpa using h.lt, fun j hj => ?_, fun j hj => ?_⟩
  · by_cases e : j = i
    · subst e; rw [upd_same]; exact World.cell?_setCell_same _ _ _ (h.c j hj)
    · rw [upd_other _ _ e, World.cell?_setCell_other (h := by intro e2; cases e2; exact e rfl)]; exact h.c j hj
  · rw [World.frozen?_setCell]; exact h.z j hj
theorem RowC.drew {w : World} {g n : Nat} {k : IntKind} {f : Nat → Nat} (h : RowC w g k n f) : RowC w.drew g k n f := ⟨h.lt, h.c, h.z⟩
theorem RowC.ext {w : World} {g n : Nat} {k : IntKind} {f f' : Nat → Nat} (h : RowC w g k n f) (e : ∀ i, i < n → f i = f' i) : RowC w g k n f' := ⟨h.lt, fun i hi => by rw [← e i hi]; exact h.c i hi, h.z⟩
theorem RowC.below {B : Nat} {w w' : World} {g n : Nat} {k : IntKind} {f : Nat → Nat} (h : RowC w g k n f) (hb : Below B w w') (hg : g < B) (hs : w.heap.size ≤ w'.heap.size) : RowC w' g k n f :=
  ⟨Nat.lt_of_lt_of_le h.lt hs, fun i hi => (hb.cell (p := ⟨g, i, none⟩) hg).trans (h.c i hi), fun i hi => (World.frozen?_of_block (w := w) (hb.block g hg)).trans (h.z i hi)⟩
theorem RowC.next {w w' : World} {g n : Nat} {k : IntKind} {f : Nat → Nat} (h : RowC w g k n f) (hb : Below w.heap.size w w') : RowC w' g k n f := h.below hb h.lt hb.size
theorem RowC.conv {w : World} {g n c : Nat} {f : Nat → Nat} (h : RowC w g .u8 n f) :
    (convert 34 9 (.slice (some ⟨g, 0, none⟩) n c)).run Try.prog w = .ok (.string (strOfNums (bytesV n f))) w := by
  refine run_convert_bytes_arg _ 34 5 Try.underlying34 Try.underlying5 g 0 n c (bytesV n f) (bytesV_len n f) ?_ 9 Try.underlying9
  intro i hi
  rw [Nat.zero_add, h.c i hi, bytesV_get f hi]
/-- A text's byte, as a number. -/
def btN (t : ByteArray) (i : Nat) : Nat := (bt t i).toNat
theorem btN_eq (t : ByteArray) (i : Nat) : bt t i = ((btN t i : Nat) : Int) := by have := bt_nonneg t i; unfold btN; omega
theorem btN_lt (t : ByteArray) (i : Nat) : btN t i < 256 := by have := bt_nonneg t i; have := bt_le t i; unfold btN; omega
/-- '[]byte(t)'. -/
theorem bytes_mk (t : ByteArray) (w : World) : ∃ cap w', (convert 9 34 (.string t)).run Try.prog w = .ok (.slice (some ⟨w.heap.size, 0, none⟩) t.size cap) w' ∧ RowC w' w.heap.size .u8 t.size (btN t) ∧ Below w.heap.size w w' ∧ w'.heap.size = w.heap.size + 1 := by
  have h := Lib.bytesWorld_at_new w 5 t
  have hc : t.size ≤ (Lib.bytesCells w 5 t).size := by unfold Lib.bytesCells; simp
  refine ⟨_, _, Lib.run_convert_string_bytes w 9 34 5 t Try.underlying9 Try.underlying34 Try.underlying5, ⟨?_, ?_, ?_⟩, ?_, Lib.bytesWorld_size _ _ _⟩
  · rw [Lib.bytesWorld_size]; omega
  · intro j hj
    rw [Lib.bytesWorld_cell w _ t j hj, ← btN_eq, bt_at]; rfl
  · intro j hj
    simp only [World.frozen?, h]
    simp; omega
  · exact ⟨rfl, rfl, rfl, by rw [Lib.bytesWorld_size]; omega, fun k hk => Lib.bytesWorld_at_old w _ t k hk⟩
theorem strOf_size (n : Nat) (f : Nat → Nat) : (strOfNums (bytesV n f)).size = n := by rw [strOfNums_size, bytesV_len]
theorem bytesV_bd {n : Nat} {f : Nat → Nat} (h : ∀ i, i < n → f i < 256) : ∀ x ∈ bytesV n f, 0 ≤ x ∧ x ≤ 255 := by
  intro x hx
  simp only [bytesV, List.mem_map, List.mem_range] at hx
  obtain ⟨i, hi, rfl⟩ := hx
  have := h i hi
  omega
theorem strOf_bt {n : Nat} {f : Nat → Nat} (h : ∀ i, i < n → f i < 256) {i : Nat} (hi : i < n) : bt (strOfNums (bytesV n f)) i = ((f i : Nat) : Int) := by
  rw [bt_strOf (bytesV_bd h) (by rw [bytesV_len]; exact hi)]
  have := bytesV_get f hi
  rw [List.getD_eq_getElem?_getD, List.getElem?_eq_getElem (by rw [bytesV_len]; exact hi)] at this
  exact this
theorem strOf_btN {n : Nat} {f : Nat → Nat} (h : ∀ i, i < n → f i < 256) {i : Nat} (hi : i < n) : btN (strOfNums (bytesV n f)) i = f i := by
  unfold btN; rw [strOf_bt h hi]; omega
/-- A text is what its bytes are. -/
theorem text_ext {a b : ByteArray} (hs : a.size = b.size) (h : ∀ i, i < a.size → btN a i = btN b i) : a = b :=
  same_text hs (fun j hj => by rw [btN_eq, btN_eq, h j hj])
theorem text_of (t : ByteArray) : strOfNums (bytesV t.size (btN t)) = t :=
  text_ext (strOf_size _ _) (fun i hi => by rw [strOf_size] at hi; exact strOf_btN (fun j _ => btN_lt t j) hi)
end Go.Proofs.Ytkcbolcodgmpaaa

namespace Go.Proofs.Ytkcbolcodgmpaaa
open Go.RowKit Go.PlainAid
set_option linter.unusedVariables false
theorem btN_sub (t : ByteArray) (p q j : Nat) (h : p + j < q) : btN (t.extract p q) j = btN t (p + j) := by
  unfold btN
  rw [bt_at, bt_at, Lib.extract_data, List.getElem?_take, List.getElem?_drop]
  by_cases hj : j < q - p
  · rw [if_pos hj]
  · omega
theorem sub_size (t : ByteArray) (p q : Nat) (h : p ≤ q) (hq : q ≤ t.size) : (t.extract p q).size = q - p := by
  rw [sz_len, Lib.extract_data, List.length_take, List.length_drop, ← sz_len]; omega
end Go.Proofs.Ytkcbolcodgmpaaa

namespace Go.Proofs.Ytkcbolcodgmpaaa
open Go.RowKit Go.PlainAid
set_option maxRecDepth 20000
set_option linter.unusedVariables false
def longT (n b : Nat) : ByteArray := strOfNums (bytesV n (fun _ => b))
theorem longT_size (n b : Nat) : (longT n b).size = n := strOf_size _ _
def longTo (b k : Nat) : Nat → Nat := fun i => if i < k then b else 0
theorem longTo_upd (b k : Nat) : upd (longTo b k) k b = longTo b (k + 1) := by
  funext i
  unfold upd longTo
  by_cases h : i = k
  · subst h; rw [if_pos rfl, if_pos (by omega)]
  · rw [if_neg h]
    by_cases h2 : i < k
    · rw [if_pos h2, if_pos (by omega)]
    · rw [if_neg h2, if_neg (by omega)]
set_option maxHeartbeats 1000000 in
theorem long_any (n b : Nat) (w : World) (hn : n ≤ 1048576) (hb : b < 256) :
    Calls Try.prog 48 #[.int .i64 (n : Int), .int .u8 (b : Int)] w fun e w' => e = .returned (.string (longT n b)) ∧ Below w.heap.size w w' := by
  have HM := run_mkB w n (by omega)
  have HX : Hid (b < 256) := hb
  go_enter Try.func48, Try.ntmps48
  go_wp2
  go_loopw [6] (fun i wr => ∃ k : Nat, k ≤ n ∧ i = .int .i64 (k : Int) ∧ Below w.heap.size w wr ∧ RowAt wr w.heap.size 5 .u8 n (longTo b k))
    (fun i _ => n - (intOf i).toNat)
  case atStart => exact ⟨0, Nat.zero_le _, rfl, (Below.refl _ _).alloc (Nat.le_refl _) _, RowAt.ext (heap_alloc_new w _) (fun i _ => by unfold longTo; rw [if_neg (by omega)])⟩
  case round =>
    obtain ⟨k, hk, rfl, hB, hR⟩ := hrel
    by_cases hkc : k < n
    · have hi0 : (0 : Int) ≤ (k : Int) := by omega
      have hlt : (k : Int) < (n : Int) := by omega
      have c1 := hR.cell hkc
      have z1 := hR.froz k
      have HR : Hid (RowAt wr w.heap.size 5 .u8 n (longTo b k)) := hR
      have HB : Hid (Below w.heap.size w wr) := hB
      clear hR hB
      go_wp2
      go_roundw
      case rel => exact ⟨k + 1, by omega, by go_num, HB.out.setCell (Nat.le_refl _) _, by rw [← longTo_upd]; exact HR.out.set hkc _⟩
      case measure => simp [intOf]; omega
    · obtain rfl : k = n := by omega
      have hcv := conv_row (c := k) hR
      go_wp2
      go_ret
      exact ⟨by unfold longT; rw [← bytesV_ext (f := longTo b k) (g := fun _ => b) (fun i hi => by unfold longTo; rw [if_pos hi])]; rfl, hB⟩
end Go.Proofs.Ytkcbolcodgmpaaa
