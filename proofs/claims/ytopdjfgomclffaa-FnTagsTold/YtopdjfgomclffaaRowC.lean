/- Rows of numbers in memory told cell by cell (what stands behind them, or is frozen there, is left open); bytes of a text as numbers. -/
import Derived.Test.YtopdjfgomclffaaArrB
import Derived.Test.YtopdjfgomclffaaBytes
import Derived.Lib.ConvBytes
import Derived.Laws.World
namespace Go.Proofs.Ytopdjfgomclffaa
open Go.RowKit Go.PlainAid
set_option linter.unusedVariables false
/-- The first n cells of block g. -/
structure RowC (w : World) (g : Nat) (k : IntKind) (n : Nat) (f : Nat → Nat) : Prop where
  lt : g < w.heap.size
  c : ∀ i, i < n → w.cell? ⟨g, i, none⟩ = some (.int k ((f i : Nat) : Int))
  z : ∀ i, i < n → w.frozen? ⟨g, i, none⟩ = false
theorem RowAt.toC {w : World} {g n : Nat} {t : TypeId} {k : IntKind} {f : Nat → Nat} (h : RowAt w g t k n f) : RowC w g k n f := ⟨h.lt, fun i hi => h.cell hi, fun i _ => h.froz i⟩
theorem RowC.set {w : World} {g n i : Nat} {k : IntKind} {f : Nat → Nat} (h : RowC w g k n f) (hi : i < n) (x : Nat) : RowC (w.setCell ⟨g, i, none⟩ (.int k ((x : Nat) : Int))) g k n (upd f i x) := by
  refine ⟨by simpa using h.lt, fun j hj => ?_, fun j hj => ?_⟩
  · by_cases e : j = i
    · subst e; rw [upd_same]; exact World.cell?_setCell_same _ _ _ (h.c j hj)
    · rw [upd_other _ _ e, World.cell?_setCell_other (h := by intro e2; cases e2; exact e rfl)]; exact h.c j hj
  · rw [World.frozen?_setCell]; exact h.z j hj
theorem RowC.drew {w : World} {g n : Nat} {k : IntKind} {f : Nat → Nat} (h : RowC w g k n f) : RowC w.drew g k n f := ⟨h.lt, h.c, h.z⟩
theorem RowC.ext {w : World} {g n : Nat} {k : IntKind} {f f' : Nat → Nat} (h : RowC w g k n f) (e : ∀ i, i < n → f i = f' i) : RowC w g k n f' := ⟨h.lt, fun i hi => by rw [← e i hi]; exact h.c i hi, h.z⟩
theorem RowC.below {B : Nat} {w w' : World} {g n : Nat} {k : IntKind} {f : Nat → Nat} (h : RowC w g k n f) (hb : Below B w w') (hg : g < B) (hs : w.heap.size ≤ w'.heap.size) : RowC w' g k n f :=
  ⟨Nat.lt_of_lt_of_le h.lt hs, fun i hi => (hb.cell (p := ⟨g, i, none⟩) hg).trans (h.c i hi), fun i hi => (World.frozen?_of_block (w := w) (hb.block g hg)).trans (h.z i hi)⟩
theorem RowC.next {w w' : World} {g n : Nat} {k : IntKind} {f : Nat → Nat} (h : RowC w g k n f) (hb : Below w.heap.size w w') : RowC w' g k n f := h.below hb h.lt hb.size
theorem RowC.conv {w : World} {g n c : Nat} {f : Nat → Nat} (h : RowC w g .u8 n f) :
    (convert 22 9 (.slice (some ⟨g, 0, none⟩) n c)).run Try.prog w = .ok (.string (strOfNums (bytesV n f))) w := by
  refine run_convert_bytes_arg _ 22 5 Try.underlying22 Try.underlying5 g 0 n c (bytesV n f) (bytesV_len n f) ?_ 9 Try.underlying9
  intro i hi
  rw [Nat.zero_add, h.c i hi, bytesV_get f hi]
/-- A text's byte, as a number. -/
def btN (t : ByteArray) (i : Nat) : Nat := (bt t i).toNat
theorem btN_eq (t : ByteArray) (i : Nat) : bt t i = ((btN t i : Nat) : Int) := by have := bt_nonneg t i; unfold btN; omega
theorem btN_lt (t : ByteArray) (i : Nat) : btN t i < 256 := by have := bt_nonneg t i; have := bt_le t i; unfold btN; omega
/-- '[]byte(t)'. -/
theorem bytes_mk (t : ByteArray) (w : World) : ∃ cap w', (convert 9 22 (.string t)).run Try.prog w = .ok (.slice (some ⟨w.heap.size, 0, none⟩) t.size cap) w' ∧ RowC w' w.heap.size .u8 t.size (btN t) ∧ Below w.heap.size w w' ∧ w'.heap.size = w.heap.size + 1 := by
  have h := Lib.bytesWorld_at_new w 5 t
  have hc : t.size ≤ (Lib.bytesCells w 5 t).size := by unfold Lib.bytesCells; simp
  refine ⟨_, _, Lib.run_convert_string_bytes w 9 22 5 t Try.underlying9 Try.underlying22 Try.underlying5, ⟨?_, ?_, ?_⟩, ?_, Lib.bytesWorld_size _ _ _⟩
  · rw [Lib.bytesWorld_size]; omega
  · intro j hj
    rw [Lib.bytesWorld_cell w _ t j hj, ← btN_eq, bt_at]; rfl
  · intro j hj
    simp only [World.frozen?, h]
    simp; omega
  · exact ⟨rfl, rfl, rfl, by rw [Lib.bytesWorld_size]; omega, fun k hk => Lib.bytesWorld_at_old w _ t k hk⟩
theorem strOf_size (n : Nat) (f : Nat → Nat) : (strOfNums (bytesV n f)).size = n := by rw [strOfNums_size, bytesV_len]
theorem bytesV_bd {n : Nat} {f : Nat → Nat} (h : ∀ i, i < n → f i < 256) : ∀ x ∈ bytesV n f, 0 ≤ x ∧ x ≤ 255 := by
  intro x hx
  simp only [bytesV, List.mem_map, List.mem_range] at hx
  obtain ⟨i, hi, rfl⟩ := hx
  have := h i hi
  omega
theorem strOf_bt {n : Nat} {f : Nat → Nat} (h : ∀ i, i < n → f i < 256) {i : Nat} (hi : i < n) : bt (strOfNums (bytesV n f)) i = ((f i : Nat) : Int) := by
  rw [bt_strOf (bytesV_bd h) (by rw [bytesV_len]; exact hi)]
  have := bytesV_get f hi
  rw [List.getD_eq_getElem?_getD, List.getElem?_eq_getElem (by rw [bytesV_len]; exact hi)] at this
  exact this
theorem strOf_btN {n : Nat} {f : Nat → Nat} (h : ∀ i, i < n → f i < 256) {i : Nat} (hi : i < n) : btN (strOfNums (bytesV n f)) i = f i := by
  unfold btN; rw [strOf_bt h hi]; omega
/-- A text is what its bytes are. -/
theorem text_ext {a b : ByteArray} (hs : a.size = b.size) (h : ∀ i, i < a.size → btN a i = btN b i) : a = b :=
  same_text hs (fun j hj => by rw [btN_eq, btN_eq, h j hj])
theorem text_of (t : ByteArray) : strOfNums (bytesV t.size (btN t)) = t :=
  text_ext (strOf_size _ _) (fun i hi => by rw [strOf_size] at hi; exact strOf_btN (fun j _ => btN_lt t j) hi)
end Go.Proofs.Ytopdjfgomclffaa
