/- The laws' own helpers over rows of bools: eqBoolS, markBoolS, heldBoolS; and what a law keeps of such a row. -/
import Derived.Test.YtgmlanmblabgfaaLawArena2
import Derived.Test.YtgmlanmblabgfaaLawKeep
import Derived.Test.YtgmlanmblabgfaaPlain
import Derived.WalkKit
import Derived.WalkLawsBesides
import Derived.WalkSpells
import Derived.OwnWalk
import Derived.Laws.OwnMore
import Derived.Laws.Rows
import Derived.Test.YtgmlanmblabgfaaPlainText
namespace Go.Proofs.Ytgmlanmblabgfaa
open Go.RowKit
set_option linter.unusedVariables false

/-- A row of bools of the call's own: its cells. -/
theorem own_bools {w : World} {base k : Nat} {v : Value} {xs : List Bool} (h : w.ownsRow base 4 1 v k (xs.map (Value.bool))) (hk : 0 < k) :
    ∃ g cap, v = .slice (some ⟨g, 0, none⟩) k cap ∧ base ≤ g ∧ g < w.heap.size ∧ ∀ j, j < k → w.cell? ⟨g, j, none⟩ = some (.bool (xs.getD j false)) := by
  have hl : xs.length = k := by have := h.1; simpa using this
  have h' := h
  rcases h.2 with ⟨_, h0⟩ | ⟨g, cap, cur, rfl, hg, hb, _⟩
  · omega
  · refine ⟨g, cap, rfl, hg, (Array.getElem?_eq_some_iff.1 hb).1, fun j hj => ?_⟩
    rw [h'.cellAt j (by omega), List.getElem?_map, List.getElem?_eq_getElem (by omega), List.getD_eq_getElem?_getD, List.getElem?_eq_getElem (by omega)]; rfl
/-- A row of bools in memory, below B. -/
def RowB (B : Nat) (w : World) (a : Option Addr) (xs : List Bool) : Prop := xs = [] ∨ ∃ b off, a = some ⟨b, off, none⟩ ∧ b < B ∧ ∀ j, j < xs.length → w.cell? ⟨b, off + j, none⟩ = some (.bool (xs.getD j false))
theorem RowB.at {B : Nat} {w w' : World} {b off : Nat} {xs : List Bool} (h : RowB B w (some ⟨b, off, none⟩) xs) (hb : Below B w w') {i : Nat} (hi : i < xs.length) : b < B ∧ w'.cell? ⟨b, off + i, none⟩ = some (.bool (xs.getD i false)) := by
  rcases h with h0 | ⟨b', off', e, hlt, hc⟩
  · rw [h0] at hi; simp at hi
  · cases e
    exact ⟨hlt, (hb.cell hlt).trans (hc i hi)⟩
theorem RowB.addr {B : Nat} {w : World} {a : Option Addr} {xs : List Bool} (h : RowB B w a xs) {i : Nat} (hi : i < xs.length) : ∃ b off, a = some ⟨b, off, none⟩ := by
  rcases h with h0 | ⟨b', off', e, _⟩
  · rw [h0] at hi; simp at hi
  · exact ⟨b', off', e⟩
theorem RowB.later {B : Nat} {w w' : World} {a : Option Addr} {xs : List Bool} (h : RowB B w a xs) (hb : Below B w w') : RowB B w' a xs := by
  rcases h with h0 | ⟨b, off, e, hlt, hc⟩
  · exact .inl h0
  · exact .inr ⟨b, off, e, hlt, fun j hj => (hb.cell hlt).trans (hc j hj)⟩
theorem RowB.wide {B B' : Nat} {w : World} {a : Option Addr} {xs : List Bool} (h : RowB B w a xs) (hB : B ≤ B') : RowB B' w a xs := by
  rcases h with h0 | ⟨b, off, e, hlt, hc⟩
  · exact .inl h0
  · exact .inr ⟨b, off, e, Nat.lt_of_lt_of_le hlt hB, hc⟩
theorem RowB.grown {w w' : World} {a : Option Addr} {xs : List Bool} (h : RowB w.heap.size w a xs) (hb : Below w.heap.size w w') : RowB w'.heap.size w' a xs := (h.later hb).wide hb.size
/-- A row of bools that the call owns. -/
def OwnBool (base : Nat) (w : World) (v : Value) (xs : List Bool) : Prop := w.ownsRow base 4 1 v xs.length (xs.map (Value.bool))
theorem OwnBool.row {base : Nat} {w : World} {v : Value} {xs : List Bool} (h : OwnBool base w v xs) : ∃ a cap, v = .slice a xs.length cap ∧ AddrN a cap ∧ RowB w.heap.size w a xs := by
  rcases Nat.eq_zero_or_pos xs.length with h0 | h0
  · rcases h.2 with ⟨rfl, _⟩ | ⟨g, cap, cur, rfl, _⟩
    · exact ⟨none, 0, by rw [h0], .inl ⟨rfl, rfl⟩, .inl (List.length_eq_zero_iff.1 h0)⟩
    · exact ⟨_, cap, rfl, .inr ⟨g, 0, rfl⟩, .inl (List.length_eq_zero_iff.1 h0)⟩
  · obtain ⟨g, cap, rfl, hg, hlt, hc⟩ := own_bools h h0
    exact ⟨_, cap, rfl, .inr ⟨g, 0, rfl⟩, .inr ⟨g, 0, rfl, hlt, fun j hj => by rw [Nat.zero_add]; exact hc j hj⟩⟩
theorem OwnBool.later {B : Nat} {w w' : World} {v : Value} {xs : List Bool} (h : OwnBool B w v xs) (hb : Below w.heap.size w w') : OwnBool B w' v xs := own_next h hb
theorem OwnBool.base {B B' : Nat} {w : World} {v : Value} {xs : List Bool} (h : OwnBool B w v xs) (hb : B' ≤ B) : OwnBool B' w v xs := own_base h hb
/-- A row of bools that the law owns, its block from lo on, below hi. -/
structure OwnY (lo hi : Nat) (v : Value) (xs : List Bool) (w : World) : Prop where
  own : OwnBool lo w v xs
  le : hi ≤ w.heap.size
  lt : ∀ k, v.ownBlock = some k → k < hi
theorem OwnY.made {lo : Nat} {v : Value} {xs : List Bool} {w : World} (h : OwnBool lo w v xs) : OwnY lo w.heap.size v xs w := ⟨h, Nat.le_refl _, fun k hk => (World.ownsRow.lt h k hk).2⟩
theorem OwnY.next {lo hi : Nat} {v : Value} {xs : List Bool} {w w' : World} (h : OwnY lo hi v xs w) (hb : Below w.heap.size w w') : OwnY lo hi v xs w' := ⟨h.own.later hb, Nat.le_trans h.le hb.size, h.lt⟩
theorem OwnY.mark {lo hi : Nat} {v : Value} {xs : List Bool} {w w' : World} {r : Option Nat} (h : OwnY lo hi v xs w) (hg : w.grownBy w' r) (hne : ∀ g, r = some g → g < lo ∨ hi ≤ g) : OwnY lo hi v xs w' := by
  refine ⟨World.ownsRow.kept h.own hg ?_, Nat.le_trans h.le hg.size, h.lt⟩
  cases hv : v.ownBlock with
  | none => exact .inl rfl
  | some k =>
    right
    intro e
    have h1 := World.ownsRow.lt h.own k hv
    have h2 := h.lt k hv
    have h3 := hne k e.symm
    omega
theorem OwnY.rowAt {lo hi : Nat} {a : Option Addr} {n cap : Nat} {xs : List Bool} {w : World} (h : OwnY lo hi (.slice a n cap) xs w) : RowB w.heap.size w a xs := by
  obtain ⟨a', cap', e, _, hr⟩ := h.own.row
  cases e
  exact hr
theorem OwnY.block {lo hi : Nat} {v : Value} {xs : List Bool} {w : World} (h : OwnY lo hi v xs w) : ∀ g, v.ownBlock = some g → lo ≤ g ∧ g < hi := fun g hg => ⟨(World.ownsRow.lt h.own g hg).1, h.lt g hg⟩

/-- The marks of a row. -/
def marksB (k : Int) : Nat → List Bool
  | 0 => []
  | n + 1 => marksB k n ++ [decide (Int.tmod (k + (n : Int)) 3 = 0)]
theorem marksB_len (k : Int) : ∀ n, (marksB k n).length = n
  | 0 => rfl
  | n + 1 => by simp [marksB, marksB_len k n]
theorem marksB_at (k : Int) : ∀ n i, i < n → (marksB k n).getD i false = decide (Int.tmod (k + (i : Int)) 3 = 0)
  | 0, i, h => by omega
  | n + 1, i, h => by
    rw [marksB, List.getD_eq_getElem?_getD]
    by_cases hi : i < n
    · rw [List.getElem?_append_left (by rw [marksB_len]; exact hi), ← List.getD_eq_getElem?_getD]; exact marksB_at k n i hi
    · obtain rfl : i = n := by omega
      rw [List.getElem?_append_right (by rw [marksB_len]; exact Nat.le_refl _), marksB_len]; simp
end Go.Proofs.Ytgmlanmblabgfaa

namespace Go.Proofs.Ytgmlanmblabgfaa
open Go.RowKit
set_option linter.unusedVariables false
set_option maxHeartbeats 6400000 in
set_option maxRecDepth 20000 in
theorem made_any (a hb pb : Option Addr) (ca ch cp : Nat) (ns : List Nd) (bs : List Bool) (ps : List Int) (k : Nat) (w : World) (hl : ns.length ≤ 3000) (hbl : bs.length = ns.length) (hpl : ps.length = ns.length) (hk : k < ns.length)
    (hn : nodeB (ns.getD k Nd.zero) k = true) (hps : ∀ i, i < ns.length → ps.getD i 0 = pubN ns i ns.length) (hr : RowN w.heap.size w a ns) (hB : RowB w.heap.size w hb bs) (hP : RowI w.heap.size w pb ps) :
    Calls Try.prog 97 #[.agg #[.slice a ns.length ca], .slice hb ns.length ch, .slice pb ns.length cp, .int .i64 (k : Int)] w fun e w' => e = .returned (.bool (madeB ns bs (ns.getD k Nd.zero))) ∧ Below w.heap.size w w' := by
  obtain ⟨bA, oA, rfl⟩ := hr.addr hk
  obtain ⟨bB, oB, rfl⟩ := hB.addr (show k < bs.length by omega)
  obtain ⟨bP, oP, rfl⟩ := hP.addr (show k < ps.length by omega)
  have hb0 : Below w.heap.size w (w.alloc (.cells #[.slice (some ⟨bA, oA, none⟩) ns.length ca] 26)) := (Below.refl _ _).alloc (Nat.le_refl _) _
  obtain ⟨hbA, c0, c1, c2, c3⟩ := hr.at hb0 hk
  obtain ⟨x, hx⟩ : ∃ x, ns.getD k Nd.zero = x := ⟨_, rfl⟩
  rw [hx] at c0 c1 c2 c3 hn ⊢
  have hk0 : (0 : Int) ≤ (k : Int) := by omega
  have hk1 : (k : Int) < (ns.length : Int) := by omega
  have HB0 : Hid (Below w.heap.size w (w.alloc (.cells #[.slice (some ⟨bA, oA, none⟩) ns.length ca] 26))) := hb0
  have HCB : Hid (∀ (w' : World) (i : Nat), Below w.heap.size w w' → i < ns.length → w'.cell? ⟨bB, oB + i, none⟩ = some (.bool (bs.getD i false))) := fun w' i hw hi => (hB.at hw (show i < bs.length by omega)).2
  have HCP : Hid (∀ (w' : World) (i : Nat), Below w.heap.size w w' → i < ns.length → w'.cell? ⟨bP, oP + i, none⟩ = some (.int .i64 (pubN ns i ns.length))) := fun w' i hw hi => by rw [← hps i hi]; exact (hP.at hw (show i < ps.length by omega)).2
  obtain ⟨xk, xn, xa, xb⟩ := x
  simp only at c0 c1 c2 c3
  clear hx hr hB hP hps hbl hpl hb0 hbA
  rcases nodeB_true hn with h1 | h1 | h1
  · simp only at h1
    obtain ⟨rfl, h2, h3, rfl, rfl⟩ := h1
    have HM : Hid (madeB ns bs ⟨1, xn, 0, 0⟩ = decide (xn < 1000)) := by show _ = _; unfold madeB; rw [if_pos rfl]
    have HE : Hid (Below w.heap.size w ((w.alloc (.cells #[.slice (some ⟨bA, oA, none⟩) ns.length ca] 26)).alloc (.cells #[.int .i64 1, .int .i64 xn, .int .i64 0, .int .i64 0] 66))) := HB0.out.alloc (by simp) _
    clear hn HB0 HCB HCP
    go_enter Try.func97, Try.ntmps97
    go_wp2
    go_ret
    exact ⟨by rw [HM.out]; try rfl, HE.out⟩
  · simp only at h1
    obtain ⟨h2, h3, rfl, h4, h5, h6, rfl⟩ := h1
    obtain ⟨i, rfl⟩ := Int.eq_ofNat_of_zero_le h4
    have hi0 : (0 : Int) ≤ (i : Int) := by omega
    have hi1 : (i : Int) < (ns.length : Int) := by omega
    have hi2 : i < ns.length := by omega
    have h36 : xk = 3 ∨ xk = 6 := by unfold oneK at h6; simpa using h6
    rcases h36 with rfl | rfl
    · have HM : Hid (madeB ns bs ⟨3, 0, (i : Int), 0⟩ = bs.getD i false) := by show _ = _; unfold madeB; rw [if_neg (by show ¬ (3 : Int) = 1; decide), if_pos (by show oneK 3 = true; decide)]; simp
      have HE : Hid (Below w.heap.size w ((w.alloc (.cells #[.slice (some ⟨bA, oA, none⟩) ns.length ca] 26)).alloc (.cells #[.int .i64 3, .int .i64 0, .int .i64 (i : Int), .int .i64 0] 66))) := HB0.out.alloc (by simp) _
      have cB := HCB.out _ i HE.out hi2
      generalize bs.getD i false = t at HM cB
      clear hn HB0 HCB HCP h6
      go_enter Try.func97, Try.ntmps97
      go_wp2
      go_ret
      exact ⟨by rw [HM.out]; try rfl, HE.out⟩
    · have HM : Hid (madeB ns bs ⟨6, 0, (i : Int), 0⟩ = bs.getD i false) := by show _ = _; unfold madeB; rw [if_neg (by show ¬ (6 : Int) = 1; decide), if_pos (by show oneK 6 = true; decide)]; simp
      have HE : Hid (Below w.heap.size w ((w.alloc (.cells #[.slice (some ⟨bA, oA, none⟩) ns.length ca] 26)).alloc (.cells #[.int .i64 6, .int .i64 0, .int .i64 (i : Int), .int .i64 0] 66))) := HB0.out.alloc (by simp) _
      have cB := HCB.out _ i HE.out hi2
      generalize bs.getD i false = t at HM cB
      clear hn HB0 HCB HCP h6
      go_enter Try.func97, Try.ntmps97
      go_wp2
      go_ret
      exact ⟨by rw [HM.out]; try rfl, HE.out⟩
  · simp only at h1
    obtain ⟨h2, h3, rfl, h4, h5, h6, h7, h8⟩ := h1
    obtain ⟨i, rfl⟩ := Int.eq_ofNat_of_zero_le h4
    have hi0 : (0 : Int) ≤ (i : Int) := by omega
    have hi1 : (i : Int) < (ns.length : Int) := by omega
    have hi2 : i < ns.length := by omega
    obtain ⟨j, rfl⟩ := Int.eq_ofNat_of_zero_le h7
    have hj0 : (0 : Int) ≤ (j : Int) := by omega
    have hj1 : (j : Int) < (ns.length : Int) := by omega
    have hj2 : j < ns.length := by omega
    have hk3 : ¬ xk = 3 := fun e => by rw [e] at h6; simp [oneK] at h6
    have hk6 : ¬ xk = 6 := fun e => by rw [e] at h6; simp [oneK] at h6
    have hkk1 : ¬ xk = 1 := by omega
    have HO : Hid (oneK xk = false) := h6
    have HE : Hid (Below w.heap.size w ((w.alloc (.cells #[.slice (some ⟨bA, oA, none⟩) ns.length ca] 26)).alloc (.cells #[.int .i64 xk, .int .i64 0, .int .i64 (i : Int), .int .i64 (j : Int)] 66))) := HB0.out.alloc (by simp) _
    have cB := HCB.out _ i HE.out hi2
    have cC := HCB.out _ j HE.out hj2
    by_cases h77 : xk = 7
    · subst h77
      have HM : Hid (madeB ns bs ⟨7, 0, (i : Int), (j : Int)⟩ = ((bs.getD i false && (decide (0 ≤ pubN ns j ns.length) && bs.getD (pubN ns j ns.length).toNat false)) || (bs.getD j false && (decide (0 ≤ pubN ns i ns.length) && bs.getD (pubN ns i ns.length).toNat false)))) := by show _ = _; unfold madeB; rw [if_neg (by show ¬ (7 : Int) = 1; decide), if_neg (by show ¬ oneK 7 = true; decide), if_pos rfl]; simp
      have pB := HCP.out _ i HE.out hi2
      have pC := HCP.out _ j HE.out hj2
      have ri := pubN_range ns i ns.length
      have rj := pubN_range ns j ns.length
      have eB : 0 ≤ pubN ns i ns.length → ((w.alloc (.cells #[.slice (some ⟨bA, oA, none⟩) ns.length ca] 26)).alloc (.cells #[.int .i64 7, .int .i64 0, .int .i64 (i : Int), .int .i64 (j : Int)] 66)).cell? ⟨bB, oB + (pubN ns i ns.length).toNat, none⟩ = some (.bool (bs.getD (pubN ns i ns.length).toNat false)) := fun h => HCB.out _ _ HE.out (by omega)
      have eC : 0 ≤ pubN ns j ns.length → ((w.alloc (.cells #[.slice (some ⟨bA, oA, none⟩) ns.length ca] 26)).alloc (.cells #[.int .i64 7, .int .i64 0, .int .i64 (i : Int), .int .i64 (j : Int)] 66)).cell? ⟨bB, oB + (pubN ns j ns.length).toNat, none⟩ = some (.bool (bs.getD (pubN ns j ns.length).toNat false)) := fun h => HCB.out _ _ HE.out (by omega)
      generalize bs.getD i false = t1 at HM cB
      generalize bs.getD j false = t2 at HM cC
      generalize bs.getD (pubN ns j ns.length).toNat false = t4 at HM eC
      generalize bs.getD (pubN ns i ns.length).toNat false = t3 at HM eB
      generalize pubN ns j ns.length = q4 at *
      generalize pubN ns i ns.length = q3 at *
      clear hn HB0 HCB HCP h6 HO hk3 hk6 hkk1
      have hq3 : q3 = -1 ∨ ∃ m : Nat, q3 = (m : Int) := by rcases Int.lt_or_le q3 0 with h | h; left; omega; right; exact Int.eq_ofNat_of_zero_le h
      have hq4 : q4 = -1 ∨ ∃ m : Nat, q4 = (m : Int) := by rcases Int.lt_or_le q4 0 with h | h; left; omega; right; exact Int.eq_ofNat_of_zero_le h
      have HEB : Hid _ := eB
      have HEC : Hid _ := eC
      clear eB eC
      rcases hq3 with rfl | ⟨m3, rfl⟩ <;> rcases hq4 with rfl | ⟨m4, rfl⟩
      · clear HEB HEC
        cases t1 <;> cases t2
        all_goals
          go_enter Try.func97, Try.ntmps97
          go_wp2
          go_ret
          exact ⟨by rw [HM.out]; simp, HE.out⟩
      · have e4 := HEC.out (by omega)
        rw [Int.toNat_natCast] at e4
        clear HEB HEC
        cases t1 <;> cases t2 <;> cases t4
        all_goals
          go_enter Try.func97, Try.ntmps97
          go_wp2
          go_ret
          exact ⟨by rw [HM.out]; simp, HE.out⟩
      · have e3 := HEB.out (by omega)
        rw [Int.toNat_natCast] at e3
        clear HEB HEC
        cases t1 <;> cases t2 <;> cases t3
        all_goals
          go_enter Try.func97, Try.ntmps97
          go_wp2
          go_ret
          exact ⟨by rw [HM.out]; simp, HE.out⟩
      · have e3 := HEB.out (by omega)
        rw [Int.toNat_natCast] at e3
        have e4 := HEC.out (by omega)
        rw [Int.toNat_natCast] at e4
        clear HEB HEC
        cases t1 <;> cases t2 <;> cases t3 <;> cases t4
        all_goals
          go_enter Try.func97, Try.ntmps97
          go_wp2
          go_ret
          exact ⟨by rw [HM.out]; simp, HE.out⟩
    · have HM : Hid (madeB ns bs ⟨xk, 0, (i : Int), (j : Int)⟩ = (bs.getD i false && bs.getD j false)) := by show _ = _; unfold madeB; rw [if_neg hkk1, if_neg (by show ¬ oneK xk = true; rw [HO.out]; simp), if_neg h77]; simp
      generalize bs.getD i false = t1 at HM cB
      generalize bs.getD j false = t2 at HM cC
      clear hn HB0 HCB HCP h6 HO
      cases t1 <;> cases t2
      all_goals
        go_enter Try.func97, Try.ntmps97
        go_wp2
        go_ret
        exact ⟨by rw [HM.out]; simp, HE.out⟩
end Go.Proofs.Ytgmlanmblabgfaa
