/- The contract of chapter 5's l05Made, the specification's. -/
import Derived.Test.YtffnadnndmmliaaPlainReach
import Derived.Test.YtffnadnndmmliaaPlain
import Derived.Test.YtffnadnndmmliaaLawInts
import Derived.WalkKit
import Derived.WalkLawsBesides
import Derived.WalkSpells
import Derived.OwnWalk
import Derived.Laws.Rows
namespace Go.Proofs.Ytffnadnndmmliaa
open Go.RowKit
set_option linter.unusedVariables false
set_option maxHeartbeats 6400000 in
set_option maxRecDepth 20000 in
theorem made_any (a hb pb : Option Addr) (ca ch cp : Nat) (ns : List Nd) (bs : List Bool) (ps : List Int) (k : Nat) (w : World) (hl : ns.length ≤ 3000) (hbl : bs.length = ns.length) (hpl : ps.length = ns.length) (hk : k < ns.length)
    (hn : nodeB (ns.getD k Nd.zero) k = true) (hps : ∀ i, i < ns.length → ps.getD i 0 = pubN ns i ns.length) (hr : RowN w.heap.size w a ns) (hB : RowB w.heap.size w hb bs) (hP : RowI w.heap.size w pb ps) :
    Calls Try.prog 188 #[.agg #[.slice a ns.length ca], .slice hb ns.length ch, .slice pb ns.length cp, .int .i64 (k : Int)] w fun e w' => e = .returned (.bool (madeB ns bs (ns.getD k Nd.zero))) ∧ Below w.heap.size w w' := by
  obtain ⟨bA, oA, rfl⟩ := hr.addr hk
  obtain ⟨bB, oB, rfl⟩ := hB.addr (show k < bs.length by omega)
  obtain ⟨bP, oP, rfl⟩ := hP.addr (show k < ps.length by omega)
  have hb0 : Below w.heap.size w (w.alloc (.cells #[.slice (some ⟨bA, oA, none⟩) ns.length ca] 28)) := (Below.refl _ _).alloc (Nat.le_refl _) _
  obtain ⟨hbA, c0, c1, c2, c3⟩ := hr.at hb0 hk
  obtain ⟨x, hx⟩ : ∃ x, ns.getD k Nd.zero = x := ⟨_, rfl⟩
  rw [hx] at c0 c1 c2 c3 hn ⊢
  have hk0 : (0 : Int) ≤ (k : Int) := by omega
  have hk1 : (k : Int) < (ns.length : Int) := by omega
  have HB0 : Hid (Below w.heap.size w (w.alloc (.cells #[.slice (some ⟨bA, oA, none⟩) ns.length ca] 28))) := hb0
  have HCB : Hid (∀ (w' : World) (i : Nat), Below w.heap.size w w' → i < ns.length → w'.cell? ⟨bB, oB + i, none⟩ = some (.bool (bs.getD i false))) := fun w' i hw hi => (hB.at hw (show i < bs.length by omega)).2
  have HCP : Hid (∀ (w' : World) (i : Nat), Below w.heap.size w w' → i < ns.length → w'.cell? ⟨bP, oP + i, none⟩ = some (.int .i64 (pubN ns i ns.length))) := fun w' i hw hi => by rw [← hps i hi]; exact (hP.at hw (show i < ps.length by omega)).2
  obtain ⟨xk, xn, xa, xb⟩ := x
  simp only at c0 c1 c2 c3
  clear hx hr hB hP hps hbl hpl hb0 hbA
  rcases nodeB_true hn with h1 | h1 | h1
  · simp only at h1
    obtain ⟨rfl, h2, h3, rfl, rfl⟩ := h1
    have HM : Hid (madeB ns bs ⟨1, xn, 0, 0⟩ = decide (xn < 1000)) := by show _ = _; unfold madeB; rw [if_pos rfl]
    have HE : Hid (Below w.heap.size w ((w.alloc (.cells #[.slice (some ⟨bA, oA, none⟩) ns.length ca] 28)).alloc (.cells #[.int .i64 1, .int .i64 xn, .int .i64 0, .int .i64 0] 45))) := HB0.out.alloc (by simp) _
    clear hn HB0 HCB HCP
    go_enter Try.func188, Try.ntmps188
    go_wp2
    go_ret
    exact ⟨by rw [HM.out]; try rfl, HE.out⟩
  · simp only at h1
    obtain ⟨h2, h3, rfl, h4, h5, h6, rfl⟩ := h1
    obtain ⟨i, rfl⟩ := Int.eq_ofNat_of_zero_le h4
    have hi0 : (0 : Int) ≤ (i : Int) := by omega
    have hi1 : (i : Int) < (ns.length : Int) := by omega
    have hi2 : i < ns.length := by omega
    have h36 : xk = 3 ∨ xk = 6 := by unfold oneK at h6; simpa using h6
    rcases h36 with rfl | rfl
    · have HM : Hid (madeB ns bs ⟨3, 0, (i : Int), 0⟩ = bs.getD i false) := by show _ = _; unfold madeB; rw [if_neg (by show ¬ (3 : Int) = 1; decide), if_pos (by show oneK 3 = true; decide)]; simp
      have HE : Hid (Below w.heap.size w ((w.alloc (.cells #[.slice (some ⟨bA, oA, none⟩) ns.length ca] 28)).alloc (.cells #[.int .i64 3, .int .i64 0, .int .i64 (i : Int), .int .i64 0] 45))) := HB0.out.alloc (by simp) _
      have cB := HCB.out _ i HE.out hi2
      generalize bs.getD i false = t at HM cB
      clear hn HB0 HCB HCP h6
      go_enter Try.func188, Try.ntmps188
      go_wp2
      go_ret
      exact ⟨by rw [HM.out]; try rfl, HE.out⟩
    · have HM : Hid (madeB ns bs ⟨6, 0, (i : Int), 0⟩ = bs.getD i false) := by show _ = _; unfold madeB; rw [if_neg (by show ¬ (6 : Int) = 1; decide), if_pos (by show oneK 6 = true; decide)]; simp
      have HE : Hid (Below w.heap.size w ((w.alloc (.cells #[.slice (some ⟨bA, oA, none⟩) ns.length ca] 28)).alloc (.cells #[.int .i64 6, .int .i64 0, .int .i64 (i : Int), .int .i64 0] 45))) := HB0.out.alloc (by simp) _
      have cB := HCB.out _ i HE.out hi2
      generalize bs.getD i false = t at HM cB
      clear hn HB0 HCB HCP h6
      go_enter Try.func188, Try.ntmps188
      go_wp2
      go_ret
      exact ⟨by rw [HM.out]; try rfl, HE.out⟩
  · simp only at h1
    obtain ⟨h2, h3, rfl, h4, h5, h6, h7, h8⟩ := h1
    obtain ⟨i, rfl⟩ := Int.eq_ofNat_of_zero_le h4
    have hi0 : (0 : Int) ≤ (i : Int) := by omega
    have hi1 : (i : Int) < (ns.length : Int) := by omega
    have hi2 : i < ns.length := by omega
    obtain ⟨j, rfl⟩ := Int.eq_ofNat_of_zero_le h7
    have hj0 : (0 : Int) ≤ (j : Int) := by omega
    have hj1 : (j : Int) < (ns.length : Int) := by omega
    have hj2 : j < ns.length := by omega
    have hk3 : ¬ xk = 3 := fun e => by rw [e] at h6; simp [oneK] at h6
    have hk6 : ¬ xk = 6 := fun e => by rw [e] at h6; simp [oneK] at h6
    have hkk1 : ¬ xk = 1 := by omega
    have HO : Hid (oneK xk = false) := h6
    have HE : Hid (Below w.heap.size w ((w.alloc (.cells #[.slice (some ⟨bA, oA, none⟩) ns.length ca] 28)).alloc (.cells #[.int .i64 xk, .int .i64 0, .int .i64 (i : Int), .int .i64 (j : Int)] 45))) := HB0.out.alloc (by simp) _
    have cB := HCB.out _ i HE.out hi2
    have cC := HCB.out _ j HE.out hj2
    by_cases h77 : xk = 7
    · subst h77
      have HM : Hid (madeB ns bs ⟨7, 0, (i : Int), (j : Int)⟩ = ((bs.getD i false && (decide (0 ≤ pubN ns j ns.length) && bs.getD (pubN ns j ns.length).toNat false)) || (bs.getD j false && (decide (0 ≤ pubN ns i ns.length) && bs.getD (pubN ns i ns.length).toNat false)))) := by show _ = _; unfold madeB; rw [if_neg (by show ¬ (7 : Int) = 1; decide), if_neg (by show ¬ oneK 7 = true; decide), if_pos rfl]; simp
      have pB := HCP.out _ i HE.out hi2
      have pC := HCP.out _ j HE.out hj2
      have ri := pubN_range ns i ns.length
      have rj := pubN_range ns j ns.length
      have eB : 0 ≤ pubN ns i ns.length → ((w.alloc (.cells #[.slice (some ⟨bA, oA, none⟩) ns.length ca] 28)).alloc (.cells #[.int .i64 7, .int .i64 0, .int .i64 (i : Int), .int .i64 (j : Int)] 45)).cell? ⟨bB, oB + (pubN ns i ns.length).toNat, none⟩ = some (.bool (bs.getD (pubN ns i ns.length).toNat false)) := fun h => HCB.out _ _ HE.out (by omega)
      have eC : 0 ≤ pubN ns j ns.length → ((w.alloc (.cells #[.slice (some ⟨bA, oA, none⟩) ns.length ca] 28)).alloc (.cells #[.int .i64 7, .int .i64 0, .int .i64 (i : Int), .int .i64 (j : Int)] 45)).cell? ⟨bB, oB + (pubN ns j ns.length).toNat, none⟩ = some (.bool (bs.getD (pubN ns j ns.length).toNat false)) := fun h => HCB.out _ _ HE.out (by omega)
      generalize bs.getD i false = t1 at HM cB
      generalize bs.getD j false = t2 at HM cC
      generalize bs.getD (pubN ns j ns.length).toNat false = t4 at HM eC
      generalize bs.getD (pubN ns i ns.length).toNat false = t3 at HM eB
      generalize pubN ns j ns.length = q4 at *
      generalize pubN ns i ns.length = q3 at *
      clear hn HB0 HCB HCP h6 HO hk3 hk6 hkk1
      have hq3 : q3 = -1 ∨ ∃ m : Nat, q3 = (m : Int) := by rcases Int.lt_or_le q3 0 with h | h; left; omega; right; exact Int.eq_ofNat_of_zero_le h
      have hq4 : q4 = -1 ∨ ∃ m : Nat, q4 = (m : Int) := by rcases Int.lt_or_le q4 0 with h | h; left; omega; right; exact Int.eq_ofNat_of_zero_le h
      have HEB : Hid _ := eB
      have HEC : Hid _ := eC
      clear eB eC
      rcases hq3 with rfl | ⟨m3, rfl⟩ <;> rcases hq4 with rfl | ⟨m4, rfl⟩
      · clear HEB HEC
        cases t1 <;> cases t2
        all_goals
          go_enter Try.func188, Try.ntmps188
          go_wp2
          go_ret
          exact ⟨by rw [HM.out]; simp, HE.out⟩
      · have e4 := HEC.out (by omega)
        rw [Int.toNat_natCast] at e4
        clear HEB HEC
        cases t1 <;> cases t2 <;> cases t4
        all_goals
          go_enter Try.func188, Try.ntmps188
          go_wp2
          go_ret
          exact ⟨by rw [HM.out]; simp, HE.out⟩
      · have e3 := HEB.out (by omega)
        rw [Int.toNat_natCast] at e3
        clear HEB HEC
        cases t1 <;> cases t2 <;> cases t3
        all_goals
          go_enter Try.func188, Try.ntmps188
          go_wp2
          go_ret
          exact ⟨by rw [HM.out]; simp, HE.out⟩
      · have e3 := HEB.out (by omega)
        rw [Int.toNat_natCast] at e3
        have e4 := HEC.out (by omega)
        rw [Int.toNat_natCast] at e4
        clear HEB HEC
        cases t1 <;> cases t2 <;> cases t3 <;> cases t4
        all_goals
          go_enter Try.func188, Try.ntmps188
          go_wp2
          go_ret
          exact ⟨by rw [HM.out]; simp, HE.out⟩
    · have HM : Hid (madeB ns bs ⟨xk, 0, (i : Int), (j : Int)⟩ = (bs.getD i false && bs.getD j false)) := by show _ = _; unfold madeB; rw [if_neg hkk1, if_neg (by show ¬ oneK xk = true; rw [HO.out]; simp), if_neg h77]; simp
      generalize bs.getD i false = t1 at HM cB
      generalize bs.getD j false = t2 at HM cC
      clear hn HB0 HCB HCP h6 HO
      cases t1 <;> cases t2
      all_goals
        go_enter Try.func188, Try.ntmps188
        go_wp2
        go_ret
        exact ⟨by rw [HM.out]; simp, HE.out⟩
end Go.Proofs.Ytffnadnndmmliaa
