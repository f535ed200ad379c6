/- Drawn marks (chapter 22): DrawHmacOk. -/
import Derived.Test.YticpflohhfokdaaDoorDraw22
import Derived.Test.YticpflohhfokdaaDoorSpoilt
import Derived.Test.YticpflohhfokdaaDoorMac22
import Derived.WalkKit
import Derived.WalkLawsBesides
import Derived.WalkSpells
namespace Go.Proofs.YticpflohhfokdaaDoor
open Go.RowKit
set_option maxRecDepth 20000
set_option linter.unusedVariables false
set_option maxHeartbeats 800000 in
theorem drawHmacOk_any (a : Option Addr) (len cap : Nat) (w : World) (hc : CodeIn w.heap.size w a len) :
    Calls Tryd.prog 7 #[.slice a len cap] w fun e w' => ∃ s t m : ByteArray, e = .returned (.tuple #[.string s, .string t, .string m]) ∧ s.size ≤ 100 ∧ t.size ≤ 100 ∧ m.size ≤ 30000 ∧ Below w.heap.size w w' := by
  go_enter Tryd.func7, Tryd.ntmps7
  go_wp2_with fail
  refine (new_any a len cap _ hc).mono ?_
  rintro e w1 ⟨g, rfl, hc1, hb1⟩
  have hg := hc1.1
  go_wp2_with fail
  refine (below_any w.heap.size g 3 _ (by omega) (by omega) hc1).mono ?_
  rintro e w2 ⟨x, rfl, hx, hc2, hg2⟩
  have hb2 : Below w.heap.size w w2 := hb1.grown hg2 hb1.size (fun k hk => by cases hk; exact hg)
  go_wp2_with fail
  refine (drawHmac_any a len cap _ (codeIn_later hc hb2)).mono ?_
  rintro e w3 ⟨s, t, rfl, hs, ht, hb3⟩
  have hc3 := hc2.grown hb3
  have hb4 := hb2.trans (hb3.mono hb2.size)
  clear hb3 hc2 hc1 hg2
  go_wp2_with fail
  refine (specMac_any s t _ (by omega) (by omega)).mono ?_
  rintro e w4 ⟨rfl, hb5⟩
  have hc4 := hc3.grown hb5
  have hb6 := hb4.trans (hb5.mono hb4.size)
  have hms := macT_size s t
  generalize macT s t = m at hms
  clear hb5 hc3 hb4 hb2 hb1
  by_cases h0 : x = 0
  · subst h0
    go_wp2_with fail
    refine (spoilt_any w.heap.size g m _ (by omega) hc4).mono ?_
    rintro e w5 ⟨m2, rfl, hm2, hc5, hg5⟩
    have HB : Hid (Below w.heap.size w w5) := hb6.grown hg5 hb6.size (fun k hk => by cases hk; exact hg)
    clear hg5 hc5 hb6
    go_wp2
    go_ret3
    exact ⟨s, t, m2, rfl, hs, ht, hm2, HB.out⟩
  · have hq : ((x : Int) == 0) = false := by simp; omega
    have HB : Hid (Below w.heap.size w w4) := hb6
    go_wp2
    go_ret3
    exact ⟨s, t, m, rfl, hs, ht, by omega, HB.out⟩
end Go.Proofs.YticpflohhfokdaaDoor
