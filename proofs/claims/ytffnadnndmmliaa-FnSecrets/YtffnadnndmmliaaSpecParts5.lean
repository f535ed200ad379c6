/- The contract of chapter 5's l05Parts, the specification's. -/
import Derived.Test.YtffnadnndmmliaaPlainReach2
import Derived.Test.YtffnadnndmmliaaPlain
import Derived.Test.YtffnadnndmmliaaCurW
import Derived.WalkKit
import Derived.WalkLawsBesides
import Derived.WalkSpells
import Derived.OwnWalk
import Derived.Laws.Rows
namespace Go.Proofs.Ytffnadnndmmliaa
open Go.RowKit
set_option linter.unusedVariables false
/-- A row of bools in the making, at g. -/
abbrev BoolsAt (B g n : Nat) (w : World) (bs : List Bool) : Prop := w.ownsRow B 4 1 (.slice (some ⟨g, 0, none⟩) n n) n (bs.map Value.bool)
theorem BoolsAt.cell {B g n : Nat} {w : World} {bs : List Bool} (h : BoolsAt B g n w bs) {j : Nat} (hj : j < n) : w.cell? ⟨g, j, none⟩ = some (.bool (bs.getD j false)) := by
  have hl : bs.length = n := by have := h.1; simpa using this
  rw [World.ownsRow.cellAt h j (by omega), List.getElem?_map, List.getElem?_eq_getElem (by omega), List.getD_eq_getElem?_getD, List.getElem?_eq_getElem (by omega)]; rfl
theorem BoolsAt.set {B g n : Nat} {w : World} {bs : List Bool} (h : BoolsAt B g n w bs) (j : Nat) : BoolsAt B g n (w.setCell ⟨g, j, none⟩ (.bool true)) (bs.set j true) := by
  have := (World.ownsRow.stored h j (.bool true)).1
  rw [← List.map_set] at this
  exact this
theorem BoolsAt.next2 {B g n : Nat} {w : World} {bs : List Bool} (h : BoolsAt B g n w bs) (o p : Obj) : BoolsAt B g n ((w.alloc o).alloc p) bs := own_next h (((Below.refl _ _).alloc (Nat.le_refl _) o).alloc (by simp) p)
theorem gb_two {w w' : World} {r : Option Nat} (h : w.grownBy w' r) (o p : Obj) : w.grownBy ((w'.alloc o).alloc p) r := grown_trans h (grown_trans (World.grownBy_alloc _ _ _) (World.grownBy_alloc _ _ _))
theorem BoolsAt.next {B g n : Nat} {w w' : World} {bs : List Bool} (h : BoolsAt B g n w bs) (hb : Below w.heap.size w w') : BoolsAt B g n w' bs := own_next h hb
set_option maxHeartbeats 6400000 in
set_option maxRecDepth 20000 in
theorem gives_any (B g ca : Nat) (a : Option Addr) (ns : List Nd) (bs : List Bool) (k : Nat) (w : World) (hl : ns.length ≤ 3000) (hk : k < ns.length) (hn : nodeB (ns.getD k Nd.zero) k = true) (hr : RowN B w a ns) (hB : B ≤ g) (hBs : B ≤ w.heap.size) (ho : BoolsAt B g ns.length w bs) :
    Calls Try.prog 189 #[.agg #[.slice a ns.length ca], .slice (some ⟨g, 0, none⟩) ns.length ns.length, .int .i64 (k : Int)] w fun e w' => e = .returned (.bool (givesT bs (ns.getD k Nd.zero))) ∧ BoolsAt B g ns.length w' (givesB bs (ns.getD k Nd.zero)) ∧ w.grownBy w' (some g) := by
  obtain ⟨bA, oA, rfl⟩ := hr.addr hk
  have hg : g < w.heap.size := (World.ownsRow.lt ho _ (by simp [Value.ownBlock])).2
  have hb0 : Below w.heap.size w (w.alloc (.cells #[.slice (some ⟨bA, oA, none⟩) ns.length ca] 28)) := (Below.refl _ _).alloc (Nat.le_refl _) _
  obtain ⟨hbA, c0, c1, c2, c3⟩ := hr.at (hb0.mono hBs) hk
  obtain ⟨x, hx⟩ : ∃ x, ns.getD k Nd.zero = x := ⟨_, rfl⟩
  rw [hx] at c0 c1 c2 c3 hn ⊢
  have hk0 : (0 : Int) ≤ (k : Int) := by omega
  have hk1 : (k : Int) < (ns.length : Int) := by omega
  have HB0 : Hid (Below w.heap.size w (w.alloc (.cells #[.slice (some ⟨bA, oA, none⟩) ns.length ca] 28))) := hb0
  obtain ⟨xk, xn, xa, xb⟩ := x
  simp only at c0 c1 c2 c3
  clear hx hr hb0 hbA
  by_cases h2 : xk = 2 ∨ xk = 8 ∨ xk = 5
  · have hnt : nodeB ⟨xk, xn, xa, xb⟩ k = true := hn
    have hone : oneK xk = false := by rcases h2 with rfl | rfl | rfl <;> rfl
    rcases nodeB_true hnt with h1 | h1 | h1
    · simp only at h1; omega
    · simp only at h1; rw [hone] at h1; simp at h1
    · simp only at h1
      obtain ⟨-, -, rfl, h4, h5, -, h7, h8⟩ := h1
      obtain ⟨i, rfl⟩ := Int.eq_ofNat_of_zero_le h4
      have hi0 : (0 : Int) ≤ (i : Int) := by omega
      have hi1 : (i : Int) < (ns.length : Int) := by omega
      have hi2 : i < ns.length := by omega
      obtain ⟨j, rfl⟩ := Int.eq_ofNat_of_zero_le h7
      have hj0 : (0 : Int) ≤ (j : Int) := by omega
      have hj1 : (j : Int) < (ns.length : Int) := by omega
      have hj2 : j < ns.length := by omega
      have HE : Hid (Below w.heap.size w ((w.alloc (.cells #[.slice (some ⟨bA, oA, none⟩) ns.length ca] 28)).alloc (.cells #[.int .i64 xk, .int .i64 0, .int .i64 (i : Int), .int .i64 (j : Int)] 45))) := HB0.out.alloc (by simp) _
      have HO : Hid (BoolsAt B g ns.length ((w.alloc (.cells #[.slice (some ⟨bA, oA, none⟩) ns.length ca] 28)).alloc (.cells #[.int .i64 xk, .int .i64 0, .int .i64 (i : Int), .int .i64 (j : Int)] 45)) bs) := BoolsAt.next ho HE.out
      have cB := BoolsAt.cell HO.out hi2
      have cC := BoolsAt.cell HO.out hj2
      have fB := World.ownsRow.frozenAt HO.out i
      have fC := World.ownsRow.frozenAt HO.out j
      have HG : Hid (w.grownBy ((w.alloc (.cells #[.slice (some ⟨bA, oA, none⟩) ns.length ca] 28)).alloc (.cells #[.int .i64 xk, .int .i64 0, .int .i64 (i : Int), .int .i64 (j : Int)] 45)) (some g)) := grown_below HE.out _
      clear hn hnt hone h4 h5 h7 h8 HB0
      obtain ⟨t1, ht1⟩ : ∃ t, bs.getD i false = t := ⟨_, rfl⟩
      obtain ⟨t2, ht2⟩ : ∃ t, bs.getD j false = t := ⟨_, rfl⟩
      have H1 : Hid (bs.getD i false = t1) := ht1
      have H2 : Hid (bs.getD j false = t2) := ht2
      rw [ht1] at cB
      rw [ht2] at cC
      clear ht1 ht2
      rcases h2 with rfl | rfl | rfl
      · have HM : Hid (givesT bs ⟨2, 0, (i : Int), (j : Int)⟩ = (!t1 || !t2) ∧ givesB bs ⟨2, 0, (i : Int), (j : Int)⟩ = (bs.set i true).set j true) := ⟨by unfold givesT; rw [if_pos rfl]; simp only [Int.toNat_natCast]; rw [H1.out, H2.out], by unfold givesB; rw [if_pos rfl]; simp⟩
        have cD := BoolsAt.cell (BoolsAt.next2 (BoolsAt.set ho i) (.cells #[.slice (some ⟨bA, oA, none⟩) ns.length ca] 28) (.cells #[.int .i64 2, .int .i64 0, .int .i64 (i : Int), .int .i64 (j : Int)] 45)) hj2
        have fD := World.ownsRow.frozenAt (BoolsAt.next2 (BoolsAt.set ho i) (.cells #[.slice (some ⟨bA, oA, none⟩) ns.length ca] 28) (.cells #[.int .i64 2, .int .i64 0, .int .i64 (i : Int), .int .i64 (j : Int)] 45)) j
        have HS2 : Hid _ := BoolsAt.next2 (BoolsAt.set (BoolsAt.set ho i) j) (.cells #[.slice (some ⟨bA, oA, none⟩) ns.length ca] 28) (.cells #[.int .i64 2, .int .i64 0, .int .i64 (i : Int), .int .i64 (j : Int)] 45)
        have HG2 : Hid _ := gb_two (gb_set (gb_set (gb_refl w (some g)) i (.bool true)) j (.bool true)) (.cells #[.slice (some ⟨bA, oA, none⟩) ns.length ca] 28) (.cells #[.int .i64 2, .int .i64 0, .int .i64 (i : Int), .int .i64 (j : Int)] 45)
        clear H1 H2 HO HG HE ho
        cases t1 <;> cases t2
        all_goals
          go_enter Try.func189, Try.ntmps189
          go_wp2
          go_ret
          exact ⟨by rw [HM.out.1]; rfl, by rw [HM.out.2]; exact HS2.out, HG2.out⟩
      · have HM : Hid (givesT bs ⟨8, 0, (i : Int), (j : Int)⟩ = !t2 ∧ givesB bs ⟨8, 0, (i : Int), (j : Int)⟩ = bs.set j true) := ⟨by unfold givesT; rw [if_neg (by show ¬ (8 : Int) = 2; decide), if_pos rfl]; simp only [Int.toNat_natCast]; rw [H2.out], by unfold givesB; rw [if_neg (by show ¬ (8 : Int) = 2; decide), if_pos rfl]; simp⟩
        have HS2 : Hid _ := BoolsAt.next2 (BoolsAt.set ho j) (.cells #[.slice (some ⟨bA, oA, none⟩) ns.length ca] 28) (.cells #[.int .i64 8, .int .i64 0, .int .i64 (i : Int), .int .i64 (j : Int)] 45)
        have HG2 : Hid _ := gb_two (gb_set (gb_refl w (some g)) j (.bool true)) (.cells #[.slice (some ⟨bA, oA, none⟩) ns.length ca] 28) (.cells #[.int .i64 8, .int .i64 0, .int .i64 (i : Int), .int .i64 (j : Int)] 45)
        clear H1 H2 HO HG HE ho
        cases t2
        all_goals
          go_enter Try.func189, Try.ntmps189
          go_wp2
          go_ret
          exact ⟨by rw [HM.out.1]; rfl, by rw [HM.out.2]; exact HS2.out, HG2.out⟩
      · have HM : Hid (givesT bs ⟨5, 0, (i : Int), (j : Int)⟩ = (t1 && !t2) ∧ givesB bs ⟨5, 0, (i : Int), (j : Int)⟩ = if t1 = true then bs.set j true else bs) := ⟨by unfold givesT; rw [if_neg (by show ¬ (5 : Int) = 2; decide), if_neg (by show ¬ (5 : Int) = 8; decide), if_pos rfl]; simp only [Int.toNat_natCast]; rw [H1.out, H2.out], by unfold givesB; rw [if_neg (by show ¬ (5 : Int) = 2; decide), if_neg (by show ¬ (5 : Int) = 8; decide), if_pos rfl]; simp only [Int.toNat_natCast]; rw [H1.out]⟩
        have HS2 : Hid _ := BoolsAt.next2 (BoolsAt.set ho j) (.cells #[.slice (some ⟨bA, oA, none⟩) ns.length ca] 28) (.cells #[.int .i64 5, .int .i64 0, .int .i64 (i : Int), .int .i64 (j : Int)] 45)
        have HG2 : Hid _ := gb_two (gb_set (gb_refl w (some g)) j (.bool true)) (.cells #[.slice (some ⟨bA, oA, none⟩) ns.length ca] 28) (.cells #[.int .i64 5, .int .i64 0, .int .i64 (i : Int), .int .i64 (j : Int)] 45)
        clear H1 H2 HE ho
        cases t1
        · clear HS2 HG2
          go_enter Try.func189, Try.ntmps189
          go_wp2
          go_ret
          exact ⟨by rw [HM.out.1]; rfl, by rw [HM.out.2]; exact HO.out, HG.out⟩
        · clear HO HG
          cases t2
          all_goals
            go_enter Try.func189, Try.ntmps189
            go_wp2
            go_ret
            exact ⟨by rw [HM.out.1]; rfl, by rw [HM.out.2]; exact HS2.out, HG2.out⟩
  · have q2 : ¬ xk = 2 := fun e => h2 (.inl e)
    have q8 : ¬ xk = 8 := fun e => h2 (.inr (.inl e))
    have q5 : ¬ xk = 5 := fun e => h2 (.inr (.inr e))
    have HM : Hid (givesT bs ⟨xk, xn, xa, xb⟩ = false ∧ givesB bs ⟨xk, xn, xa, xb⟩ = bs) := ⟨by unfold givesT; rw [if_neg q2, if_neg q8, if_neg q5], by unfold givesB; rw [if_neg q2, if_neg q8, if_neg q5]⟩
    have HE : Hid (Below w.heap.size w ((w.alloc (.cells #[.slice (some ⟨bA, oA, none⟩) ns.length ca] 28)).alloc (.cells #[.int .i64 xk, .int .i64 xn, .int .i64 xa, .int .i64 xb] 45))) := HB0.out.alloc (by simp) _
    have HO : Hid (BoolsAt B g ns.length ((w.alloc (.cells #[.slice (some ⟨bA, oA, none⟩) ns.length ca] 28)).alloc (.cells #[.int .i64 xk, .int .i64 xn, .int .i64 xa, .int .i64 xb] 45)) bs) := BoolsAt.next ho HE.out
    have HG : Hid (w.grownBy ((w.alloc (.cells #[.slice (some ⟨bA, oA, none⟩) ns.length ca] 28)).alloc (.cells #[.int .i64 xk, .int .i64 xn, .int .i64 xa, .int .i64 xb] 45)) (some g)) := grown_below HE.out _
    clear hn h2 HB0 ho HE
    go_enter Try.func189, Try.ntmps189
    go_wp2
    go_ret
    exact ⟨by rw [HM.out.1]; rfl, by rw [HM.out.2]; exact HO.out, HG.out⟩
end Go.Proofs.Ytffnadnndmmliaa
