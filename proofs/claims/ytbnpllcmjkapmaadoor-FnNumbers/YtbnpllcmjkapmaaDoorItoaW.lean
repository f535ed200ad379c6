/- The contract of the program's Decimal: strconv.Itoa, by the library's contract. -/
import Derived.Test.YtbnpllcmjkapmaaDoorShelf
import Derived.Test.YtbnpllcmjkapmaaDoorDecW
import Derived.Lib.ItoaNum
import Derived.Lib.LaidTab
import Derived.WalkSmall
import Derived.WalkKit
import Derived.WalkLawsBesides
namespace Go.Proofs.YtbnpllcmjkapmaaDoor
open Go.RowKit Go.PlainAid

theorem decDigits_eq (n : Nat) : Lib.decDigits n = (dec n).map (fun x => UInt8.ofNat x.toNat) := by
  induction n using Nat.strongRecOn with
  | ind n ih =>
    by_cases h : n < 10
    · rw [Lib.decDigits, dif_pos h, dec_small h, List.map_singleton, show (48 + (n : Int)).toNat = 48 + n by omega]
    · rw [Lib.decDigits, dif_neg h, dec_big (by omega), ih (n / 10) (by omega), List.map_append, List.map_singleton, show (48 + ((n % 10 : Nat) : Int)).toNat = 48 + n % 10 by omega]
theorem itoa_eq (n : Int) : (⟨(Lib.itoa n).toArray⟩ : ByteArray) = strOfNums (decI n) := by
  unfold strOfNums Lib.itoa decI
  by_cases h : n < 0
  · rw [if_pos h, if_pos h, decDigits_eq]; rfl
  · rw [if_neg h, if_neg h, decDigits_eq, show n.toNat = n.natAbs by omega]

theorem below_grow (w : World) (k : Nat) (os : Array Obj) : Below w.heap.size w (Sort.grow (w.drewN k) os) :=
  ⟨rfl, rfl, rfl, by simp [Sort.grow], fun j hj => by simp [Sort.grow, Array.getElem?_append, hj]⟩

theorem tab_below {P : Program} {w w' : World} {name : String} {g : Nat} {k : IntKind} {zs : List Int} (hg : P.globalNamed name = some g) (h : Lib.TabIs P w name k zs) (hb : Below w.heap.size w w') : Lib.TabIs P w' name k zs := by
  refine var?_below hb hg ?_ h
  unfold Lib.TabIs World.var? at h
  simp only [hg, Option.bind_some] at h
  rcases Nat.lt_or_ge g w.heap.size with h' | h'
  · exact h'
  · simp [Array.getElem?_eq_none h'] at h

theorem gPow : Tryd.prog.globalNamed "internal/strconv.uint64pow10" = some 0 := by kernel_rfl

theorem implDec (n : Int) (w : World) (h0 : -9223372036854775808 ≤ n) (h1 : n ≤ 9223372036854775807) (htab : Lib.TabIs Tryd.prog w "internal/strconv.uint64pow10" .u64 Lib.pow10Tab) :
    Calls Tryd.prog 9 #[.int .i64 n] w fun e w' => e = .returned (.string (strOfNums (decI n))) ∧ Below w.heap.size w w' := by
  have hi := Tryd.strconv_Itoa n h0 h1 w htab
  rw [itoa_eq] at hi
  have HI : Hid (Calls Tryd.prog 19 #[.int .i64 n] w fun e w' => e = .returned (.string (strOfNums (decI n))) ∧ ∃ k os, w' = Sort.grow (w.drewN k) os) := hi
  clear hi htab
  go_enter Tryd.func9, Tryd.ntmps9
  go_wp2_with (go_at_call 19; refine HI.out.mono ?_; rintro e w' ⟨rfl, k, os, rfl⟩)
  go_ret
  exact ⟨rfl, below_grow _ _ _⟩
end Go.Proofs.YtbnpllcmjkapmaaDoor
