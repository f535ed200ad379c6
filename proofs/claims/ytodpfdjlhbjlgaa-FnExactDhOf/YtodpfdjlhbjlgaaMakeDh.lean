/- The contracts of chapter 4's inOrder and DhOf, the program's, and of l04Dh and DhOf, the specification's. -/
import Derived.Test.YtodpfdjlhbjlgaaMakeOrd
import Derived.Test.YtodpfdjlhbjlgaaMakeI
import Derived.WalkKit
import Derived.WalkLawsBesides
import Derived.WalkSpells
import Derived.Laws.Rows
namespace Go.Proofs.Ytodpfdjlhbjlgaa
open Go.RowKit Go.PlainAid
set_option linter.unusedVariables false
theorem swap_is (ns : List Nd) (x y : Int) : decide (0 < (if cmpS (txS ns x) (txS ns y) = 0 then cmpI x y else cmpS (txS ns x) (txS ns y))) = swapB ns x y := by
  unfold swapB cmpI
  rcases cmpS_range (txS ns x) (txS ns y) with h | h | h <;> rw [h]
  · rfl
  · by_cases h1 : x < y
    · simp [h1]; omega
    · by_cases h2 : y < x
      · simp [h1, h2]
      · simp [h1, h2]
  · rfl
set_option maxHeartbeats 800000 in
theorem inOrder_any (a : Option Addr) (cap : Nat) (ns : List Nd) (x y : Int) (w : World) (hl : ns.length ≤ 1048576) (hr : RowN w.heap.size w a ns) :
    Calls Try.prog 120 #[.agg #[.slice a ns.length cap], .int .i64 x, .int .i64 y] w fun e w' => e = .returned (.tuple #[.int .i64 (if swapB ns x y = true then y else x), .int .i64 (if swapB ns x y = true then x else y)]) ∧ Below w.heap.size w w' := by
  have hb0 : Below w.heap.size w (w.alloc (.cells #[.slice a ns.length cap] 26)) := (Below.refl _ _).alloc (Nat.le_refl _) _
  have hA0 := heap_alloc_new w (.cells #[.slice a ns.length cap] 26)
  have hs0 : (w.alloc (.cells #[.slice a ns.length cap] 26)).heap.size = w.heap.size + 1 := by simp
  have c0 : (w.alloc (.cells #[.slice a ns.length cap] 26)).cell? ⟨w.heap.size, 0, none⟩ = some (.slice a ns.length cap) := (cell_of_row _ _ 0 _ _ _ hA0).trans rfl
  have HTx : Hid (∀ wz, Below w.heap.size w wz → Calls Try.prog 16 #[.agg #[.slice a ns.length cap], .int .i64 x] wz fun e w' => e = .returned (.tuple #[.string (txS ns x), .bool (txB ns x)]) ∧ Below wz.heap.size wz w') := fun wz hz => implTextV_any a cap ns x wz hl (hr.grown hz)
  have HTy : Hid (∀ wz, Below w.heap.size w wz → Calls Try.prog 16 #[.agg #[.slice a ns.length cap], .int .i64 y] wz fun e w' => e = .returned (.tuple #[.string (txS ns y), .bool (txB ns y)]) ∧ Below wz.heap.size wz w') := fun wz hz => implTextV_any a cap ns y wz hl (hr.grown hz)
  have hsw := swap_is ns x y
  obtain ⟨q, hq⟩ : ∃ q, swapB ns x y = q := ⟨_, rfl⟩
  rw [hq] at hsw ⊢
  generalize txS ns x = s at HTx hsw
  generalize txS ns y = t at HTy hsw
  generalize txB ns x = b1 at HTx
  generalize txB ns y = b2 at HTy
  have HC : Hid _ := fun wz => cmpString_any s t wz
  have HI : Hid _ := fun wz => cmpInt_any x y wz
  generalize cmpS s t = c at HC hsw
  generalize cmpI x y = d at HI hsw
  clear hr hq hA0
  go_enter Try.func120, Try.ntmps120
  go_wp2_with fail
  generalize w.alloc (.cells #[.slice a ns.length cap] 26) = w0 at hb0 hs0 c0 ⊢
  refine (HTx.out w0 hb0).mono ?_
  rintro e w1 ⟨rfl, hb1⟩
  have hB1 : Below w.heap.size w w1 := hb0.trans (hb1.mono hb0.size)
  have c1 : w1.cell? ⟨w.heap.size, 0, none⟩ = some (.slice a ns.length cap) := (hb1.cell (p := ⟨w.heap.size, 0, none⟩) (show w.heap.size < w0.heap.size by omega)).trans c0
  clear hb0 hb1 c0
  go_wp2_with fail
  refine (HTy.out w1 hB1).mono ?_
  rintro e w2 ⟨rfl, hb2⟩
  have hB2 : Below w.heap.size w w2 := hB1.trans (hb2.mono hB1.size)
  clear hB1 hb2 c1 HTx HTy
  go_wp2_with fail
  refine (HC.out w2).mono ?_
  rintro e w3 ⟨rfl, rfl⟩
  go_wp2_with fail
  refine (HI.out w2).mono ?_
  rintro e w3 ⟨rfl, rfl⟩
  have HB3 : Hid (Below w.heap.size w (w2.alloc (.cells #[.int .i64 c, .int .i64 d] 3))) := hB2.alloc hB2.size _
  have hn3 := heap_alloc_new w2 (.cells #[.int .i64 c, .int .i64 d] 3)
  have HO : Hid _ := orOf_any w2.heap.size c d (w2.alloc (.cells #[.int .i64 c, .int .i64 d] 3)) ((cell_of_row _ _ 0 _ _ _ hn3).trans rfl) ((cell_of_row _ _ 1 _ _ _ hn3).trans rfl)
  clear HC HI hB2 hn3
  go_wp2_with fail
  refine Calls.mono HO.out ?_
  rintro e w3 ⟨rfl, rfl⟩
  generalize (if c = 0 then d else c) = r at hsw ⊢
  clear HO
  cases q
  · have hr : ¬ 0 < r := by simpa using hsw
    clear hsw
    go_wp2
    go_ret2
    exact ⟨rfl, HB3.out⟩
  · have hr : 0 < r := by simpa using hsw
    clear hsw
    go_wp2
    go_ret2
    exact ⟨rfl, HB3.out⟩

/-- DhOf. -/
def dhB (ns : List Nd) (x pub : Int) : Bool := isK ns pub 6 && okAt ns x
def dhN (ns : List Nd) (x pub : Int) : Nd := ⟨7, 0, if swapB ns x (ndAt ns pub).a = true then (ndAt ns pub).a else x, if swapB ns x (ndAt ns pub).a = true then x else (ndAt ns pub).a⟩
def dhA (ns : List Nd) (x pub : Int) : List Nd := if dhB ns x pub = true then putA ns (dhN ns x pub) else ns
def dhK (ns : List Nd) (x pub : Int) : Int := if dhB ns x pub = true then putK ns (dhN ns x pub) else -1
theorem dhK_neg {ns : List Nd} {x pub : Int} (h : dhK ns x pub < 0) : dhK ns x pub = -1 := by
  unfold dhK at h ⊢
  split
  · rename_i h1; rw [if_pos h1] at h; exact putK_neg h
  · rfl
theorem dhA_neg {ns : List Nd} {x pub : Int} (h : dhK ns x pub < 0) : dhA ns x pub = ns := by
  unfold dhK at h
  unfold dhA
  split
  · rename_i h1; rw [if_pos h1] at h; exact putA_neg h
  · rfl
theorem dhA_len {ns : List Nd} {x pub : Int} (h : ns.length ≤ 1048576) : (dhA ns x pub).length ≤ 1048577 := by
  unfold dhA
  split
  · exact putA_len h
  · omega
end Go.Proofs.Ytodpfdjlhbjlgaa
