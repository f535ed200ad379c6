/- appendVar of the program, onto a row that the call owns. -/
import Derived.Test.YthjaeajhldjapaaVarW
import Derived.Test.YthjaeajhldjapaaAppL
import Derived.Test.YthjaeajhldjapaaHexB
import Derived.Test.YthjaeajhldjapaaBytes
import Derived.Test.YthjaeajhldjapaaPlainRead
import Derived.WalkKit
import Derived.WalkLawsBesides
import Derived.WalkSpells
import Derived.OwnWalk
import Derived.Lib.AppendStr
import Derived.PlainAid
namespace Go.Proofs.Ythjaeajhldjapaa
open Go.RowKit Go.PlainAid
set_option maxRecDepth 20000
set_option linter.unusedVariables false
theorem strCells_nums {xs : List Int} (h : ∀ x ∈ xs, 0 ≤ x ∧ x ≤ 255) : Lib.strCells (strOfNums xs) = xs.map (Value.int .u8) := by
  unfold Lib.strCells
  rw [strOfNums_data, List.map_map]
  apply List.map_congr_left
  intro x hx
  have := h x hx
  simp only [Function.comp, UInt8.toNat_ofNat']
  congr 1
  omega
theorem appV_any (base : Nat) (v : Value) (xs : List Int) (n : Nat) (w : World) (hn : n ≤ 1000000000) (hx : xs.length ≤ 100000) (hb : base ≤ w.heap.size) (hown : w.ownsRow base 5 1 v xs.length (xs.map (Value.int .u8))) :
    Calls Try.prog 17 #[v, .int .i64 (n : Int)] w fun e w' => ∃ v', e = .returned v' ∧ w'.ownsRow base 5 1 v' (xs ++ vb n).length ((xs ++ vb n).map (Value.int .u8)) ∧ w.grownBy w' v.ownBlock ∧ Lies w v v' := by
  obtain ⟨i0, hi, hz0, hz1, hz2⟩ := info_parts Try.info5
  have hlen := vb_len10 n (by omega)
  have HR : Hid _ := vb_range n
  have HSZ : Hid ((strOfNums (vb n)).size = (vb n).length) := strOfNums_size _
  go_enter Try.func17, Try.ntmps17
  go_wp2_with fail
  refine (implVar_yes n _ hn).mono ?_
  rintro e w1 ⟨rfl, hb1⟩
  have ho1 := own_next hown hb1
  have hs1 := hb1.size
  go_wp2_with (at_builtin; refine wpList_append_string_at rfl _ _ 33 9 rfl base 5 i0 Try.underlying33 Try.underlying9 hi hz0 hz1 hz2 _ _ _ rfl ho1 _ rfl ?c1 ?c2 ?c3 ?_)
  case c1 => unfold maxLen; rw [HSZ.out]; omega
  case c2 => rw [HSZ.out]; omega
  case c3 => omega
  intro v' w2 ho2 hg2 hl2
  rw [strCells_nums HR.out, HSZ.out] at ho2
  have HO : Hid (w2.ownsRow base 5 1 v' (xs ++ vb n).length ((xs ++ vb n).map (Value.int .u8))) := own_snoc ho2
  have HB : Hid (w.grownBy w2 v.ownBlock ∧ Lies w v v') := ⟨gb_then (gb_of hb1 _) (fun g hg => .inl hg) hg2, hl2.back hs1⟩
  clear ho2 hg2 hl2 ho1 hb1 hown
  go_wp2
  go_ret
  exact ⟨_, rfl, HO.out, HB.out.1, HB.out.2⟩
theorem strApp (xs ys : List Int) : strOfNums (xs ++ ys) = strOfNums xs ++ strOfNums ys := by
  apply Go.WideShapes.bytes_inj
  rw [dat_app, strOfNums_data, strOfNums_data, strOfNums_data, List.map_append]
end Go.Proofs.Ythjaeajhldjapaa
