/- The laws' own helpers over rows of integers: eqIntS, markIntS, heldIntS; and what a law keeps of such a row. -/
import Derived.Test.YtlmkkkpjcpopkaaLawArena2
import Derived.Test.YtlmkkkpjcpopkaaTermPut2
import Derived.Test.YtlmkkkpjcpopkaaPlain
import Derived.WalkKit
import Derived.WalkLawsBesides
import Derived.WalkSpells
import Derived.OwnWalk
import Derived.Laws.OwnMore
import Derived.Laws.Rows
import Derived.Test.YtlmkkkpjcpopkaaPlainReach
namespace Go.Proofs.Ytlmkkkpjcpopkaa
open Go.RowKit
set_option linter.unusedVariables false

/-- A row of integers in memory, below B. -/
def RowI (B : Nat) (w : World) (a : Option Addr) (xs : List Int) : Prop := xs = [] ∨ ∃ b off, a = some ⟨b, off, none⟩ ∧ b < B ∧ ∀ j, j < xs.length → w.cell? ⟨b, off + j, none⟩ = some (.int .i64 (xs.getD j 0))
theorem RowI.at {B : Nat} {w w' : World} {b off : Nat} {xs : List Int} (h : RowI B w (some ⟨b, off, none⟩) xs) (hb : Below B w w') {i : Nat} (hi : i < xs.length) : b < B ∧ w'.cell? ⟨b, off + i, none⟩ = some (.int .i64 (xs.getD i 0)) := by
  rcases h with h0 | ⟨b', off', e, hlt, hc⟩
  · rw [h0] at hi; simp at hi
  · cases e
    exact ⟨hlt, (hb.cell hlt).trans (hc i hi)⟩
theorem RowI.addr {B : Nat} {w : World} {a : Option Addr} {xs : List Int} (h : RowI B w a xs) {i : Nat} (hi : i < xs.length) : ∃ b off, a = some ⟨b, off, none⟩ := by
  rcases h with h0 | ⟨b', off', e, _⟩
  · rw [h0] at hi; simp at hi
  · exact ⟨b', off', e⟩
theorem RowI.later {B : Nat} {w w' : World} {a : Option Addr} {xs : List Int} (h : RowI B w a xs) (hb : Below B w w') : RowI B w' a xs := by
  rcases h with h0 | ⟨b, off, e, hlt, hc⟩
  · exact .inl h0
  · exact .inr ⟨b, off, e, hlt, fun j hj => (hb.cell hlt).trans (hc j hj)⟩
theorem RowI.wide {B B' : Nat} {w : World} {a : Option Addr} {xs : List Int} (h : RowI B w a xs) (hB : B ≤ B') : RowI B' w a xs := by
  rcases h with h0 | ⟨b, off, e, hlt, hc⟩
  · exact .inl h0
  · exact .inr ⟨b, off, e, Nat.lt_of_lt_of_le hlt hB, hc⟩
theorem RowI.grown {w w' : World} {a : Option Addr} {xs : List Int} (h : RowI w.heap.size w a xs) (hb : Below w.heap.size w w') : RowI w'.heap.size w' a xs := (h.later hb).wide hb.size
/-- A row of integers that the call owns. -/
def OwnInt (base : Nat) (w : World) (v : Value) (xs : List Int) : Prop := w.ownsRow base 3 1 v xs.length (xs.map (Value.int .i64))
theorem OwnInt.row {base : Nat} {w : World} {v : Value} {xs : List Int} (h : OwnInt base w v xs) : ∃ a cap, v = .slice a xs.length cap ∧ AddrN a cap ∧ RowI w.heap.size w a xs := by
  rcases Nat.eq_zero_or_pos xs.length with h0 | h0
  · rcases h.2 with ⟨rfl, _⟩ | ⟨g, cap, cur, rfl, _⟩
    · exact ⟨none, 0, by rw [h0], .inl ⟨rfl, rfl⟩, .inl (List.length_eq_zero_iff.1 h0)⟩
    · exact ⟨_, cap, rfl, .inr ⟨g, 0, rfl⟩, .inl (List.length_eq_zero_iff.1 h0)⟩
  · obtain ⟨g, cap, rfl, hg, hlt, hc⟩ := own_ints h h0
    exact ⟨_, cap, rfl, .inr ⟨g, 0, rfl⟩, .inr ⟨g, 0, rfl, hlt, fun j hj => by rw [Nat.zero_add]; exact hc j hj⟩⟩
theorem OwnInt.later {B : Nat} {w w' : World} {v : Value} {xs : List Int} (h : OwnInt B w v xs) (hb : Below w.heap.size w w') : OwnInt B w' v xs := own_next h hb
theorem OwnInt.base {B B' : Nat} {w : World} {v : Value} {xs : List Int} (h : OwnInt B w v xs) (hb : B' ≤ B) : OwnInt B' w v xs := own_base h hb
/-- A row of integers that the law owns, its block from lo on, below hi. -/
structure OwnZ (lo hi : Nat) (v : Value) (xs : List Int) (w : World) : Prop where
  own : OwnInt lo w v xs
  le : hi ≤ w.heap.size
  lt : ∀ k, v.ownBlock = some k → k < hi
theorem OwnZ.made {lo : Nat} {v : Value} {xs : List Int} {w : World} (h : OwnInt lo w v xs) : OwnZ lo w.heap.size v xs w := ⟨h, Nat.le_refl _, fun k hk => (World.ownsRow.lt h k hk).2⟩
theorem OwnZ.next {lo hi : Nat} {v : Value} {xs : List Int} {w w' : World} (h : OwnZ lo hi v xs w) (hb : Below w.heap.size w w') : OwnZ lo hi v xs w' := ⟨h.own.later hb, Nat.le_trans h.le hb.size, h.lt⟩
theorem OwnZ.mark {lo hi : Nat} {v : Value} {xs : List Int} {w w' : World} {r : Option Nat} (h : OwnZ lo hi v xs w) (hg : w.grownBy w' r) (hne : ∀ g, r = some g → g < lo ∨ hi ≤ g) : OwnZ lo hi v xs w' := by
  refine ⟨World.ownsRow.kept h.own hg ?_, Nat.le_trans h.le hg.size, h.lt⟩
  cases hv : v.ownBlock with
  | none => exact .inl rfl
  | some k =>
    right
    intro e
    have h1 := World.ownsRow.lt h.own k hv
    have h2 := h.lt k hv
    have h3 := hne k e.symm
    omega
theorem OwnZ.rowAt {lo hi : Nat} {a : Option Addr} {n cap : Nat} {xs : List Int} {w : World} (h : OwnZ lo hi (.slice a n cap) xs w) : RowI w.heap.size w a xs := by
  obtain ⟨a', cap', e, _, hr⟩ := h.own.row
  cases e
  exact hr
theorem OwnZ.block {lo hi : Nat} {v : Value} {xs : List Int} {w : World} (h : OwnZ lo hi v xs w) : ∀ g, v.ownBlock = some g → lo ≤ g ∧ g < hi := fun g hg => ⟨(World.ownsRow.lt h.own g hg).1, h.lt g hg⟩

set_option maxHeartbeats 800000 in
theorem eqIntS_same (a b : Option Addr) (ca cb : Nat) (xs : List Int) (w : World) (hl : xs.length ≤ 2097152) (hr : RowI w.heap.size w a xs) (hq : RowI w.heap.size w b xs) :
    Calls Try.prog 39 #[.slice a xs.length ca, .slice b xs.length cb] w fun e w' => e = .returned (.bool true) ∧ Below w.heap.size w w' := by
  have HR : Hid (RowI w.heap.size w a xs) := hr
  have HQ : Hid (RowI w.heap.size w b xs) := hq
  clear hr hq
  go_enter Try.func39, Try.ntmps39
  go_wp2
  go_loopw [5] (fun i wr => ∃ k : Nat, k ≤ xs.length ∧ i = .int .i64 (k : Int) ∧ Below w.heap.size w wr)
    (fun i _ => xs.length - (intOf i).toNat)
  case atStart => exact ⟨0, Nat.zero_le _, rfl, Below.refl _ _⟩
  case round =>
    obtain ⟨k, hk, rfl, hbel⟩ := hrel
    by_cases hlt : k < xs.length
    · obtain ⟨b1, off1, rfl⟩ := HR.out.addr hlt
      obtain ⟨b2, off2, rfl⟩ := HQ.out.addr hlt
      have hi0 : (0 : Int) ≤ (k : Int) := by omega
      have hi1 : (k : Int) < (xs.length : Int) := by omega
      have c1 := (HR.out.at hbel hlt).2
      have c2 := (HQ.out.at hbel hlt).2
      generalize xs.getD k 0 = y at c1 c2
      go_wp2
      go_quiet (fail)
      go_wp2
      go_roundw
      case rel => exact ⟨k + 1, by omega, by go_num, below_dn hbel _⟩
      case measure => simp [intOf]; omega
    · obtain rfl : k = xs.length := by omega
      go_wp2
      go_ret
      exact ⟨rfl, hbel⟩
/-- The marks of a row. -/
def marksI (k : Int) : Nat → List Int
  | 0 => []
  | n + 1 => marksI k n ++ [k + (n : Int)]
theorem marksI_len (k : Int) : ∀ n, (marksI k n).length = n
  | 0 => rfl
  | n + 1 => by simp [marksI, marksI_len k n]
theorem marksI_at (k : Int) : ∀ n i, i < n → (marksI k n).getD i 0 = k + (i : Int)
  | 0, i, h => by omega
  | n + 1, i, h => by
    rw [marksI, List.getD_eq_getElem?_getD]
    by_cases hi : i < n
    · rw [List.getElem?_append_left (by rw [marksI_len]; exact hi), ← List.getD_eq_getElem?_getD]; exact marksI_at k n i hi
    · obtain rfl : i = n := by omega
      rw [List.getElem?_append_right (by rw [marksI_len]; exact Nat.le_refl _), marksI_len]; simp
set_option maxHeartbeats 800000 in
theorem markIntS_some (base g cap n k0 : Nat) (xs0 : List Value) (w : World) (hn : n ≤ 2097152) (hk : k0 ≤ 1000000000) (hown : w.ownsRow base 3 1 (.slice (some ⟨g, 0, none⟩) n cap) n xs0) :
    Calls Try.prog 40 #[.slice (some ⟨g, 0, none⟩) n cap, .int .i64 (k0 : Int)] w fun e w' => e = .returned (.int .i64 ((k0 : Int) + (n : Int))) ∧ OwnInt base w' (.slice (some ⟨g, 0, none⟩) n cap) (marksI k0 n) ∧ w.grownBy w' (some g) := by
  go_enter Try.func40, Try.ntmps40
  go_wp2
  go_loopw [1, 5] (fun kk i wr => ∃ (j : Nat) (xs : List Value), j ≤ n ∧ i = .int .i64 (j : Int) ∧ kk = .int .i64 ((k0 : Int) + (j : Int)) ∧ wr.ownsRow base 3 1 (.slice (some ⟨g, 0, none⟩) n cap) n xs ∧ Hid (xs.take j = (marksI k0 j).map (Value.int .i64)) ∧ Hid (w.grownBy wr (some g)))
    (fun _ i _ => n - (intOf i).toNat)
  case atStart => exact ⟨0, _, Nat.zero_le _, rfl, by simp, hown, (by show _ = _; simp [marksI]), gb_refl _ _⟩
  case round =>
    obtain ⟨j, xs, hj, rfl, rfl, ho, HT, HG⟩ := hrel
    have hxl : xs.length = n * 1 := ho.1
    by_cases hlt : j < n
    · have hi0 : (0 : Int) ≤ (j : Int) := by omega
      have hi1 : (j : Int) < (n : Int) := by omega
      obtain ⟨u0, e0⟩ : ∃ u, wr.cell? ⟨g, j, none⟩ = some u := by rw [ho.cellAt j (by omega)]; exact ⟨_, List.getElem?_eq_getElem (by omega)⟩
      have f0 := ho.frozenAt j
      have HS : Hid _ := (ho.stored j (.int .i64 ((k0 : Int) + (j : Int)))).1
      have HG4 : Hid _ := gb_set HG.out j (.int .i64 ((k0 : Int) + (j : Int)))
      have HT4 : Hid ((xs.set j (.int .i64 ((k0 : Int) + (j : Int)))).take (j + 1) = (marksI k0 (j + 1)).map (Value.int .i64)) := by
        show _ = _
        rw [marksI, List.map_append, ← HT.out]
        apply List.ext_getElem?
        intro q
        rw [List.getElem?_take]
        by_cases h1 : q < j
        · rw [if_pos (by omega), List.getElem?_append_left (by simp; omega), List.getElem?_set, if_neg (by omega), List.getElem?_take, if_pos h1]
        · by_cases h2 : q = j
          · subst h2
            rw [if_pos (by omega), List.getElem?_append_right (by simp; omega), List.getElem?_set, if_pos rfl, if_pos (by omega)]
            simp [Nat.min_eq_left (show q ≤ xs.length by omega)]
          · rw [if_neg (by omega)]
            symm
            apply List.getElem?_eq_none
            simp; omega
      clear ho HT HG
      go_wp2
      go_roundw
      case rel => exact ⟨j + 1, _, by omega, by go_num, by go_num, HS.out, HT4, HG4⟩
      case measure => simp [intOf]; omega
    · obtain rfl : j = n := by omega
      have HE : Hid (xs = (marksI k0 j).map (Value.int .i64)) := by
        show _ = _
        have := HT.out
        rw [List.take_of_length_le (by omega)] at this
        exact this
      clear HT
      go_wp2
      go_ret
      exact ⟨rfl, by unfold OwnInt; rw [← HE.out, marksI_len]; exact ho, HG.out⟩
theorem markIntS_nil (k : Int) (w : World) : Calls Try.prog 40 #[.slice none 0 0, .int .i64 k] w fun e w' => e = .returned (.int .i64 k) ∧ w = w' := by
  go_enter Try.func40, Try.ntmps40
  go_wp2
  go_loop [1, 5] (fun kk i => kk = .int .i64 k ∧ i = .int .i64 0) (fun _ _ => 0)
  case atStart => exact ⟨rfl, rfl⟩
  case round =>
    obtain ⟨rfl, rfl⟩ := hrel
    go_wp2
    go_ret
    exact ⟨rfl, rfl⟩
theorem markIntS_any (base k0 : Nat) (v : Value) (xs : List Int) (w : World) (hn : xs.length ≤ 2097152) (hk : k0 ≤ 1000000000) (hown : OwnInt base w v xs) :
    Calls Try.prog 40 #[v, .int .i64 (k0 : Int)] w fun e w' => e = .returned (.int .i64 ((k0 : Int) + (xs.length : Int))) ∧ OwnInt base w' v (marksI k0 xs.length) ∧ w.grownBy w' v.ownBlock := by
  rcases hown.2 with ⟨rfl, h0⟩ | ⟨g, cap, cur, rfl, _⟩
  · refine (markIntS_nil _ w).mono ?_
    rintro e w1 ⟨rfl, rfl⟩
    refine ⟨by rw [h0]; simp, ?_, gb_refl _ _⟩
    rw [h0]; exact ⟨rfl, .inl ⟨rfl, rfl⟩⟩
  · exact markIntS_some base g cap xs.length k0 _ w hn hk hown
set_option maxHeartbeats 800000 in
theorem heldIntS_any (a : Option Addr) (cap n k0 : Nat) (w : World) (hn : n ≤ 2097152) (hk : k0 ≤ 1000000000) (hr : RowI w.heap.size w a (marksI k0 n)) :
    Calls Try.prog 41 #[.slice a n cap, .int .i64 (k0 : Int)] w fun e w' => e = .returned (.int .i64 ((k0 : Int) + (n : Int))) ∧ Below w.heap.size w w' := by
  have HR : Hid (RowI w.heap.size w a (marksI k0 n)) := hr
  clear hr
  go_enter Try.func41, Try.ntmps41
  go_wp2
  go_loopw [1, 5] (fun kk i wr => ∃ j : Nat, j ≤ n ∧ i = .int .i64 (j : Int) ∧ kk = .int .i64 ((k0 : Int) + (j : Int)) ∧ Below w.heap.size w wr)
    (fun _ i _ => n - (intOf i).toNat)
  case atStart => exact ⟨0, Nat.zero_le _, rfl, by simp, Below.refl _ _⟩
  case round =>
    obtain ⟨j, hj, rfl, rfl, hbel⟩ := hrel
    by_cases hlt : j < n
    · have hi0 : (0 : Int) ≤ (j : Int) := by omega
      have hi1 : (j : Int) < (n : Int) := by omega
      have hjl : j < (marksI k0 n).length := by rw [marksI_len]; exact hlt
      obtain ⟨b, off, rfl⟩ := HR.out.addr hjl
      have c0 := (HR.out.at hbel hjl).2
      rw [marksI_at k0 n j hlt] at c0
      clear hjl
      go_wp2
      go_roundw
      case rel => exact ⟨j + 1, by omega, by go_num, by go_num, hbel⟩
      case measure => simp [intOf]; omega
    · obtain rfl : j = n := by omega
      go_wp2
      go_ret
      exact ⟨rfl, hbel⟩
end Go.Proofs.Ytlmkkkpjcpopkaa

namespace Go.Proofs.Ytlmkkkpjcpopkaa
open Go.RowKit
set_option linter.unusedVariables false
set_option maxHeartbeats 6400000 in
set_option maxRecDepth 20000 in
theorem made_any (a hb pb : Option Addr) (ca ch cp : Nat) (ns : List Nd) (bs : List Bool) (ps : List Int) (k : Nat) (w : World) (hl : ns.length ≤ 3000) (hbl : bs.length = ns.length) (hpl : ps.length = ns.length) (hk : k < ns.length)
    (hn : nodeB (ns.getD k Nd.zero) k = true) (hps : ∀ i, i < ns.length → ps.getD i 0 = pubN ns i ns.length) (hr : RowN w.heap.size w a ns) (hB : RowB w.heap.size w hb bs) (hP : RowI w.heap.size w pb ps) :
    Calls Try.prog 164 #[.agg #[.slice a ns.length ca], .slice hb ns.length ch, .slice pb ns.length cp, .int .i64 (k : Int)] w fun e w' => e = .returned (.bool (madeB ns bs (ns.getD k Nd.zero))) ∧ Below w.heap.size w w' := by
  obtain ⟨bA, oA, rfl⟩ := hr.addr hk
  obtain ⟨bB, oB, rfl⟩ := hB.addr (show k < bs.length by omega)
  obtain ⟨bP, oP, rfl⟩ := hP.addr (show k < ps.length by omega)
  have hb0 : Below w.heap.size w (w.alloc (.cells #[.slice (some ⟨bA, oA, none⟩) ns.length ca] 26)) := (Below.refl _ _).alloc (Nat.le_refl _) _
  obtain ⟨hbA, c0, c1, c2, c3⟩ := hr.at hb0 hk
  obtain ⟨x, hx⟩ : ∃ x, ns.getD k Nd.zero = x := ⟨_, rfl⟩
  rw [hx] at c0 c1 c2 c3 hn ⊢
  have hk0 : (0 : Int) ≤ (k : Int) := by omega
  have hk1 : (k : Int) < (ns.length : Int) := by omega
  have HB0 : Hid (Below w.heap.size w (w.alloc (.cells #[.slice (some ⟨bA, oA, none⟩) ns.length ca] 26))) := hb0
  have HCB : Hid (∀ (w' : World) (i : Nat), Below w.heap.size w w' → i < ns.length → w'.cell? ⟨bB, oB + i, none⟩ = some (.bool (bs.getD i false))) := fun w' i hw hi => (hB.at hw (show i < bs.length by omega)).2
  have HCP : Hid (∀ (w' : World) (i : Nat), Below w.heap.size w w' → i < ns.length → w'.cell? ⟨bP, oP + i, none⟩ = some (.int .i64 (pubN ns i ns.length))) := fun w' i hw hi => by rw [← hps i hi]; exact (hP.at hw (show i < ps.length by omega)).2
  obtain ⟨xk, xn, xa, xb⟩ := x
  simp only at c0 c1 c2 c3
  clear hx hr hB hP hps hbl hpl hb0 hbA
  rcases nodeB_true hn with h1 | h1 | h1
  · simp only at h1
    obtain ⟨rfl, h2, h3, rfl, rfl⟩ := h1
    have HM : Hid (madeB ns bs ⟨1, xn, 0, 0⟩ = decide (xn < 1000)) := by show _ = _; unfold madeB; rw [if_pos rfl]
    have HE : Hid (Below w.heap.size w ((w.alloc (.cells #[.slice (some ⟨bA, oA, none⟩) ns.length ca] 26)).alloc (.cells #[.int .i64 1, .int .i64 xn, .int .i64 0, .int .i64 0] 112))) := HB0.out.alloc (by simp) _
    clear hn HB0 HCB HCP
    go_enter Try.func164, Try.ntmps164
    go_wp2
    go_ret
    exact ⟨by rw [HM.out]; try rfl, HE.out⟩
  · simp only at h1
    obtain ⟨h2, h3, rfl, h4, h5, h6, rfl⟩ := h1
    obtain ⟨i, rfl⟩ := Int.eq_ofNat_of_zero_le h4
    have hi0 : (0 : Int) ≤ (i : Int) := by omega
    have hi1 : (i : Int) < (ns.length : Int) := by omega
    have hi2 : i < ns.length := by omega
    have h36 : xk = 3 ∨ xk = 6 := by unfold oneK at h6; simpa using h6
    rcases h36 with rfl | rfl
    · have HM : Hid (madeB ns bs ⟨3, 0, (i : Int), 0⟩ = bs.getD i false) := by show _ = _; unfold madeB; rw [if_neg (by show ¬ (3 : Int) = 1; decide), if_pos (by show oneK 3 = true; decide)]; simp
      have HE : Hid (Below w.heap.size w ((w.alloc (.cells #[.slice (some ⟨bA, oA, none⟩) ns.length ca] 26)).alloc (.cells #[.int .i64 3, .int .i64 0, .int .i64 (i : Int), .int .i64 0] 112))) := HB0.out.alloc (by simp) _
      have cB := HCB.out _ i HE.out hi2
      generalize bs.getD i false = t at HM cB
      clear hn HB0 HCB HCP h6
      go_enter Try.func164, Try.ntmps164
      go_wp2
      go_ret
      exact ⟨by rw [HM.out]; try rfl, HE.out⟩
    · have HM : Hid (madeB ns bs ⟨6, 0, (i : Int), 0⟩ = bs.getD i false) := by show _ = _; unfold madeB; rw [if_neg (by show ¬ (6 : Int) = 1; decide), if_pos (by show oneK 6 = true; decide)]; simp
      have HE : Hid (Below w.heap.size w ((w.alloc (.cells #[.slice (some ⟨bA, oA, none⟩) ns.length ca] 26)).alloc (.cells #[.int .i64 6, .int .i64 0, .int .i64 (i : Int), .int .i64 0] 112))) := HB0.out.alloc (by simp) _
      have cB := HCB.out _ i HE.out hi2
      generalize bs.getD i false = t at HM cB
      clear hn HB0 HCB HCP h6
      go_enter Try.func164, Try.ntmps164
      go_wp2
      go_ret
      exact ⟨by rw [HM.out]; try rfl, HE.out⟩
  · simp only at h1
    obtain ⟨h2, h3, rfl, h4, h5, h6, h7, h8⟩ := h1
    obtain ⟨i, rfl⟩ := Int.eq_ofNat_of_zero_le h4
    have hi0 : (0 : Int) ≤ (i : Int) := by omega
    have hi1 : (i : Int) < (ns.length : Int) := by omega
    have hi2 : i < ns.length := by omega
    obtain ⟨j, rfl⟩ := Int.eq_ofNat_of_zero_le h7
    have hj0 : (0 : Int) ≤ (j : Int) := by omega
    have hj1 : (j : Int) < (ns.length : Int) := by omega
    have hj2 : j < ns.length := by omega
    have hk3 : ¬ xk = 3 := fun e => by rw [e] at h6; simp [oneK] at h6
    have hk6 : ¬ xk = 6 := fun e => by rw [e] at h6; simp [oneK] at h6
    have hkk1 : ¬ xk = 1 := by omega
    have HO : Hid (oneK xk = false) := h6
    have HE : Hid (Below w.heap.size w ((w.alloc (.cells #[.slice (some ⟨bA, oA, none⟩) ns.length ca] 26)).alloc (.cells #[.int .i64 xk, .int .i64 0, .int .i64 (i : Int), .int .i64 (j : Int)] 112))) := HB0.out.alloc (by simp) _
    have cB := HCB.out _ i HE.out hi2
    have cC := HCB.out _ j HE.out hj2
    by_cases h77 : xk = 7
    · subst h77
      have HM : Hid (madeB ns bs ⟨7, 0, (i : Int), (j : Int)⟩ = ((bs.getD i false && (decide (0 ≤ pubN ns j ns.length) && bs.getD (pubN ns j ns.length).toNat false)) || (bs.getD j false && (decide (0 ≤ pubN ns i ns.length) && bs.getD (pubN ns i ns.length).toNat false)))) := by show _ = _; unfold madeB; rw [if_neg (by show ¬ (7 : Int) = 1; decide), if_neg (by show ¬ oneK 7 = true; decide), if_pos rfl]; simp
      have pB := HCP.out _ i HE.out hi2
      have pC := HCP.out _ j HE.out hj2
      have ri := pubN_range ns i ns.length
      have rj := pubN_range ns j ns.length
      have eB : 0 ≤ pubN ns i ns.length → ((w.alloc (.cells #[.slice (some ⟨bA, oA, none⟩) ns.length ca] 26)).alloc (.cells #[.int .i64 7, .int .i64 0, .int .i64 (i : Int), .int .i64 (j : Int)] 112)).cell? ⟨bB, oB + (pubN ns i ns.length).toNat, none⟩ = some (.bool (bs.getD (pubN ns i ns.length).toNat false)) := fun h => HCB.out _ _ HE.out (by omega)
      have eC : 0 ≤ pubN ns j ns.length → ((w.alloc (.cells #[.slice (some ⟨bA, oA, none⟩) ns.length ca] 26)).alloc (.cells #[.int .i64 7, .int .i64 0, .int .i64 (i : Int), .int .i64 (j : Int)] 112)).cell? ⟨bB, oB + (pubN ns j ns.length).toNat, none⟩ = some (.bool (bs.getD (pubN ns j ns.length).toNat false)) := fun h => HCB.out _ _ HE.out (by omega)
      generalize bs.getD i false = t1 at HM cB
      generalize bs.getD j false = t2 at HM cC
      generalize bs.getD (pubN ns j ns.length).toNat false = t4 at HM eC
      generalize bs.getD (pubN ns i ns.length).toNat false = t3 at HM eB
      generalize pubN ns j ns.length = q4 at *
      generalize pubN ns i ns.length = q3 at *
      clear hn HB0 HCB HCP h6 HO hk3 hk6 hkk1
      have hq3 : q3 = -1 ∨ ∃ m : Nat, q3 = (m : Int) := by rcases Int.lt_or_le q3 0 with h | h; left; omega; right; exact Int.eq_ofNat_of_zero_le h
      have hq4 : q4 = -1 ∨ ∃ m : Nat, q4 = (m : Int) := by rcases Int.lt_or_le q4 0 with h | h; left; omega; right; exact Int.eq_ofNat_of_zero_le h
      have HEB : Hid _ := eB
      have HEC : Hid _ := eC
      clear eB eC
      rcases hq3 with rfl | ⟨m3, rfl⟩ <;> rcases hq4 with rfl | ⟨m4, rfl⟩
      · clear HEB HEC
        cases t1 <;> cases t2
        all_goals
          go_enter Try.func164, Try.ntmps164
          go_wp2
          go_ret
          exact ⟨by rw [HM.out]; simp, HE.out⟩
      · have e4 := HEC.out (by omega)
        rw [Int.toNat_natCast] at e4
        clear HEB HEC
        cases t1 <;> cases t2 <;> cases t4
        all_goals
          go_enter Try.func164, Try.ntmps164
          go_wp2
          go_ret
          exact ⟨by rw [HM.out]; simp, HE.out⟩
      · have e3 := HEB.out (by omega)
        rw [Int.toNat_natCast] at e3
        clear HEB HEC
        cases t1 <;> cases t2 <;> cases t3
        all_goals
          go_enter Try.func164, Try.ntmps164
          go_wp2
          go_ret
          exact ⟨by rw [HM.out]; simp, HE.out⟩
      · have e3 := HEB.out (by omega)
        rw [Int.toNat_natCast] at e3
        have e4 := HEC.out (by omega)
        rw [Int.toNat_natCast] at e4
        clear HEB HEC
        cases t1 <;> cases t2 <;> cases t3 <;> cases t4
        all_goals
          go_enter Try.func164, Try.ntmps164
          go_wp2
          go_ret
          exact ⟨by rw [HM.out]; simp, HE.out⟩
    · have HM : Hid (madeB ns bs ⟨xk, 0, (i : Int), (j : Int)⟩ = (bs.getD i false && bs.getD j false)) := by show _ = _; unfold madeB; rw [if_neg hkk1, if_neg (by show ¬ oneK xk = true; rw [HO.out]; simp), if_neg h77]; simp
      generalize bs.getD i false = t1 at HM cB
      generalize bs.getD j false = t2 at HM cC
      clear hn HB0 HCB HCP h6 HO
      cases t1 <;> cases t2
      all_goals
        go_enter Try.func164, Try.ntmps164
        go_wp2
        go_ret
        exact ⟨by rw [HM.out]; simp, HE.out⟩
end Go.Proofs.Ytlmkkkpjcpopkaa
