/- The contract of the program's own reader of figures (chapter 1), for both bases. -/
import Derived.Test.YtiojbefgafekaaaProg
import Derived.Test.YtiojbefgafekaaaPlainRead
import Derived.Test.YtiojbefgafekaaaPlain
import Derived.WalkKit
import Derived.WalkMore
import Derived.WalkLawsBesides
import Derived.WalkSpells
namespace Go.Proofs.Ytiojbefgafekaaa
open Go.RowKit Go.PlainAid
theorem Try.info3 : (Try.prog.info? 3).map (fun i => (i.zero, i.size, i.bytes)) = some (some (.int .i64 0), 1, 8) := by kernel_rfl

/-- What a figure is worth; -1 where it is none. -/
def hvb (base x : Int) : Int := if 48 ≤ x ∧ x ≤ 57 then x - 48 else if base = 16 ∧ 97 ≤ x ∧ x ≤ 102 then x - 87 else -1
theorem hvb_dig {base x : Int} (h0 : 48 ≤ x) (h1 : x ≤ 57) : hvb base x = x - 48 := by unfold hvb; rw [if_pos ⟨h0, h1⟩]
theorem hvb_let {x : Int} (h0 : 97 ≤ x) (h1 : x ≤ 102) : hvb 16 x = x - 87 := by unfold hvb; rw [if_neg (by omega), if_pos ⟨rfl, h0, h1⟩]
theorem hvb_no {base x : Int} (h : ¬ (48 ≤ x ∧ x ≤ 57)) (h' : ¬ (base = 16 ∧ 97 ≤ x ∧ x ≤ 102)) : hvb base x = -1 := by unfold hvb; rw [if_neg h, if_neg h']

/-- The values of the first k bytes. -/
def vals (base : Int) (s : ByteArray) (k : Nat) : List Int := (List.range k).map fun j => hvb base (bt s j)
theorem vals_succ (base : Int) (s : ByteArray) (k : Nat) : vals base s (k + 1) = vals base s k ++ [hvb base (bt s k)] := by
  unfold vals; rw [List.range_succ, List.map_append, List.map_singleton]
theorem vals_len (base : Int) (s : ByteArray) (k : Nat) : (vals base s k).length = k := by simp [vals]

def AllFig (base : Int) (s : ByteArray) : Prop := ∀ k, k < s.size → 0 ≤ hvb base (bt s k)

theorem own_val {B : Nat} {w : World} {v : Value} {e k : Nat} {base x : Int} {s : ByteArray} (hx : hvb base (bt s k) = x) (h : w.ownsRow B e 1 v (k + 1) ((vals base s k).map (Value.int .i64) ++ [.int .i64 x])) :
    w.ownsRow B e 1 v (k + 1) ((vals base s (k + 1)).map (Value.int .i64)) := by
  rw [vals_succ, List.map_append, hx]; exact h

theorem own_form {B : Nat} {w : World} {v : Value} {e size n : Nat} {xs : List Value} (h : w.ownsRow B e size v n xs) : ∃ a cap, v = .slice a n cap := by
  rcases h.2 with ⟨rfl, rfl⟩ | ⟨g, cap, cur, rfl, _⟩
  · exact ⟨none, 0, rfl⟩
  · exact ⟨_, cap, rfl⟩

end Go.Proofs.Ytiojbefgafekaaa
