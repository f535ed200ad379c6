/- Pieces of a text, byte by byte. -/
import Derived.Test.YtopdjfgomclffaaRowC
import Derived.Lib.Strings
namespace Go.Proofs.Ytopdjfgomclffaa
open Go.RowKit Go.PlainAid
set_option linter.unusedVariables false
theorem btN_sub (t : ByteArray) (p q j : Nat) (h : p + j < q) : btN (t.extract p q) j = btN t (p + j) := by
  unfold btN
  rw [bt_at, bt_at, Lib.extract_data, List.getElem?_take, List.getElem?_drop]
  by_cases hj : j < q - p
  · rw [if_pos hj]
  · omega
theorem sub_size (t : ByteArray) (p q : Nat) (h : p ≤ q) (hq : q ≤ t.size) : (t.extract p q).size = q - p := by
  rw [sz_len, Lib.extract_data, List.length_take, List.length_drop, ← sz_len]; omega
end Go.Proofs.Ytopdjfgomclffaa
