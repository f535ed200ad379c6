/- Chapter 5 in plain words: the parts that come of a node, how many are still wanted, and the answer as a row that is one alone. -/
import Derived.Test.YtffnadnndmmliaaPlainReach
import Derived.Test.YtffnadnndmmliaaPlain
import Derived.Test.YtffnadnndmmliaaCurW
import Derived.WalkKit
import Derived.WalkLawsBesides
import Derived.WalkSpells
import Derived.OwnWalk
import Derived.Laws.Rows
namespace Go.Proofs.Ytffnadnndmmliaa
set_option linter.unusedVariables false

/-- What is had behind the parts of a node that is had. -/
def givesB (bs : List Bool) (x : Nd) : List Bool :=
  if x.k = 2 then (bs.set x.a.toNat true).set x.b.toNat true
  else if x.k = 8 then bs.set x.b.toNat true
  else if x.k = 5 then (if bs.getD x.a.toNat false = true then bs.set x.b.toNat true else bs)
  else bs
/-- Did one come? -/
def givesT (bs : List Bool) (x : Nd) : Bool :=
  if x.k = 2 then !bs.getD x.a.toNat false || !bs.getD x.b.toNat false
  else if x.k = 8 then !bs.getD x.b.toNat false
  else if x.k = 5 then bs.getD x.a.toNat false && !bs.getD x.b.toNat false
  else false
theorem givesB_len (bs : List Bool) (x : Nd) : (givesB bs x).length = bs.length := by
  unfold givesB
  repeat' split
  all_goals simp
theorem getD_setT (bs : List Bool) (k j : Nat) : (bs.set k true).getD j false = if k = j ∧ k < bs.length then true else bs.getD j false := by
  rw [List.getD_eq_getElem?_getD, List.getElem?_set, List.getD_eq_getElem?_getD]
  by_cases e : k = j
  · subst e
    by_cases h : k < bs.length
    · simp [h]
    · simp [h]
  · simp [e]
theorem set_same {bs : List Bool} {k : Nat} (h : bs.getD k false = true) : bs.set k true = bs := by
  apply List.ext_getElem?
  intro j
  rw [List.getElem?_set]
  by_cases e : k = j
  · subst e
    by_cases hk : k < bs.length
    · rw [List.getD_eq_getElem?_getD, List.getElem?_eq_getElem hk] at h
      simp only [Option.getD_some] at h
      simp [hk, h]
    · rw [List.getD_eq_getElem?_getD, List.getElem?_eq_none (by omega)] at h
      simp at h
  · simp [e]
theorem set_mono {bs : List Bool} {k j : Nat} (h : bs.getD j false = true) : (bs.set k true).getD j false = true := by
  rw [getD_setT]
  split
  · rfl
  · exact h
/-- How many are still wanted. -/
def cnt : List Bool → Nat
  | [] => 0
  | b :: bs => (if b = true then 0 else 1) + cnt bs
theorem cnt_set : ∀ {bs : List Bool} {k : Nat}, k < bs.length → bs.getD k false = false → cnt (bs.set k true) < cnt bs
  | [], _, h, _ => by simp at h
  | b :: bs, 0, _, h => by simp at h; subst h; simp [cnt]
  | b :: bs, k + 1, h, hb => by
    have := cnt_set (bs := bs) (k := k) (by simpa using h) (by simpa using hb)
    simp only [List.set_cons_succ, cnt]; omega
theorem cnt_set_le : ∀ (bs : List Bool) (k : Nat), cnt (bs.set k true) ≤ cnt bs
  | [], _ => by simp [cnt]
  | b :: bs, 0 => by simp only [List.set_cons_zero, cnt]; cases b <;> simp
  | b :: bs, k + 1 => by
    have := cnt_set_le bs k
    simp only [List.set_cons_succ, cnt]; omega
theorem givesB_same {bs : List Bool} {x : Nd} (h : givesT bs x = false) : givesB bs x = bs := by
  unfold givesT at h
  unfold givesB
  by_cases h2 : x.k = 2
  · rw [if_pos h2] at h ⊢
    simp only [Bool.or_eq_false_iff, Bool.not_eq_false'] at h
    rw [set_same h.1, set_same h.2]
  · rw [if_neg h2] at h ⊢
    by_cases h8 : x.k = 8
    · rw [if_pos h8] at h ⊢
      exact set_same (by simpa using h)
    · rw [if_neg h8] at h ⊢
      by_cases h5 : x.k = 5
      · rw [if_pos h5] at h ⊢
        by_cases hA : bs.getD x.a.toNat false = true
        · rw [if_pos hA]
          rw [hA] at h
          exact set_same (by simpa using h)
        · rw [if_neg hA]
      · rw [if_neg h5]
theorem gives_cnt {bs : List Bool} {x : Nd} (h : givesT bs x = true) (ha : x.a.toNat < bs.length) (hb : x.b.toNat < bs.length) : cnt (givesB bs x) < cnt bs := by
  unfold givesT at h
  unfold givesB
  by_cases h2 : x.k = 2
  · rw [if_pos h2] at h ⊢
    by_cases hA : bs.getD x.a.toNat false = true
    · rw [set_same hA]
      rw [hA] at h
      exact cnt_set hb (by simpa using h)
    · exact Nat.lt_of_le_of_lt (cnt_set_le _ _) (cnt_set ha (by simpa using hA))
  · rw [if_neg h2] at h ⊢
    by_cases h8 : x.k = 8
    · rw [if_pos h8] at h ⊢
      exact cnt_set hb (by simpa using h)
    · rw [if_neg h8] at h ⊢
      by_cases h5 : x.k = 5
      · rw [if_pos h5] at h ⊢
        simp only [Bool.and_eq_true, Bool.not_eq_true'] at h
        rw [if_pos h.1]
        exact cnt_set hb h.2
      · rw [if_neg h5] at h; simp at h
theorem gives_mono {bs : List Bool} (x : Nd) {j : Nat} (h : bs.getD j false = true) : (givesB bs x).getD j false = true := by
  unfold givesB
  repeat' split
  · exact set_mono (set_mono h)
  · exact set_mono h
  · exact set_mono h
  · exact h
  · exact h
theorem gives_sound {ns : List Nd} {K : Nat → Prop} {bs : List Bool} {k : Nat} (h : Sound ns K bs) (hk : k < ns.length) (hb : bs.getD k false = true) : Sound ns K (givesB bs (ns.getD k Nd.zero)) := by
  have hh := h.2 k hb
  unfold givesB
  split
  · rename_i h2
    exact (h.set (.pairA hk h2 hh)).set (.pairB hk h2 hh)
  · split
    · rename_i h8
      exact h.set (.sign hk h8 hh)
    · split
      · rename_i h5
        split
        · rename_i hA
          exact h.set (.sealed hk h5 hh (h.2 _ hA))
        · exact h
      · exact h
theorem closed_of {ns : List Nd} {bs : List Bool} (hm : ∀ k, k < ns.length → madeB ns bs (ns.getD k Nd.zero) = true → bs.getD k false = true) (hp : ∀ k, k < ns.length → bs.getD k false = true → givesT bs (ns.getD k Nd.zero) = false) : Closed ns bs where
  made := hm
  pair := fun k hk hb h2 => by
    have := hp k hk hb
    unfold givesT at this
    rw [if_pos h2] at this
    simpa using this
  sign := fun k hk hb h8 => by
    have := hp k hk hb
    unfold givesT at this
    rw [if_neg (by omega), if_pos h8] at this
    simpa using this
  sealed := fun k hk hb h5 hA => by
    have := hp k hk hb
    unfold givesT at this
    rw [if_neg (by omega), if_neg (by omega), if_pos h5, hA] at this
    simpa using this
/-- The answer: of each node whether it can be had. -/
structure IsReach (ns : List Nd) (xs : List Int) (bs : List Bool) : Prop where
  len : bs.length = ns.length
  iff : ∀ k, k < ns.length → (bs.getD k false = true ↔ Had ns (fun j => (j : Int) ∈ xs) k)
theorem IsReach.one {ns : List Nd} {xs : List Int} {bs cs : List Bool} (h : IsReach ns xs bs) (h' : IsReach ns xs cs) : bs = cs := by
  apply List.ext_getElem (by rw [h.len, h'.len])
  intro k h1 h2
  have hk : k < ns.length := by rw [← h.len]; exact h1
  have e := (h.iff k hk).trans (h'.iff k hk).symm
  rw [List.getD_eq_getElem?_getD, List.getElem?_eq_getElem h1, List.getD_eq_getElem?_getD, List.getElem?_eq_getElem h2] at e
  simp only [Option.getD_some] at e
  exact Bool.eq_iff_iff.2 e
theorem IsReach.of {ns : List Nd} (ha : allFrom ns ns 0 = true) {xs : List Int} {bs : List Bool} (hs : Sound ns (fun j => (j : Int) ∈ xs) bs) (hc : Closed ns bs) (hK : ∀ k, k < ns.length → (k : Int) ∈ xs → bs.getD k false = true) : IsReach ns xs bs :=
  ⟨hs.1, fun k hk => ⟨fun h => hs.2 k h, fun h => closed_all ha hc hK h⟩⟩
/-- Who knows more has no less. -/
theorem Had.more {ns : List Nd} {K L : Nat → Prop} (hKL : ∀ k, K k → L k) {k : Nat} (h : Had ns K k) : Had ns L k := by
  induction h using Had.ind with
  | known h h1 => exact .known h (hKL _ h1)
  | atom h h1 h2 => exact .atom h h1 h2
  | one h h1 _ ih => exact .one h h1 ih
  | two h h1 h7 ho _ _ ia ib => exact .two h h1 h7 ho ia ib
  | dhA h h7 _ hp p6 pa _ ia ip => exact .dhA h h7 ia hp p6 pa ip
  | dhB h h7 _ hp p6 pa _ ia ip => exact .dhB h h7 ia hp p6 pa ip
  | pairA h h2 _ ih => exact .pairA h h2 ih
  | pairB h h2 _ ih => exact .pairB h h2 ih
  | sign h h2 _ ih => exact .sign h h2 ih
  | sealed h h2 _ _ ih ia => exact .sealed h h2 ih ia
/-- Who knows what can be had can have no more. -/
theorem Had.again {ns : List Nd} {K L : Nat → Prop} (hKL : ∀ k, L k → Had ns K k) {k : Nat} (h : Had ns L k) : Had ns K k := by
  induction h using Had.ind with
  | known h h1 => exact hKL _ h1
  | atom h h1 h2 => exact .atom h h1 h2
  | one h h1 _ ih => exact .one h h1 ih
  | two h h1 h7 ho _ _ ia ib => exact .two h h1 h7 ho ia ib
  | dhA h h7 _ hp p6 pa _ ia ip => exact .dhA h h7 ia hp p6 pa ip
  | dhB h h7 _ hp p6 pa _ ia ip => exact .dhB h h7 ia hp p6 pa ip
  | pairA h h2 _ ih => exact .pairA h h2 ih
  | pairB h h2 _ ih => exact .pairB h h2 ih
  | sign h h2 _ ih => exact .sign h h2 ih
  | sealed h h2 _ _ ih ia => exact .sealed h h2 ih ia
end Go.Proofs.Ytffnadnndmmliaa

namespace Go.Proofs.Ytffnadnndmmliaa
set_option linter.unusedVariables false
/-- Is a node put together of what is marked? -/
def goodF (xs : List Int) (bs : List Bool) (j : Nat) (x : Nd) : Bool :=
  if x.k = 1 then decide (x.n < 1000) || decide ((j : Int) ∈ xs)
  else if oneK x.k = true then bs.getD x.a.toNat false
  else bs.getD x.a.toNat false && bs.getD x.b.toNat false
/-- The marks of the first m nodes. -/
def goodL (ns : List Nd) (xs : List Int) : Nat → List Bool
  | 0 => []
  | m + 1 => goodL ns xs m ++ [goodF xs (goodL ns xs m) m (ns.getD m Nd.zero)]
theorem goodL_len (ns : List Nd) (xs : List Int) : ∀ m, (goodL ns xs m).length = m
  | 0 => rfl
  | m + 1 => by rw [goodL, List.length_append, goodL_len ns xs m]; rfl
theorem goodL_get (ns : List Nd) (xs : List Int) {j : Nat} : ∀ {m : Nat}, j < m → (goodL ns xs m).getD j false = goodF xs (goodL ns xs j) j (ns.getD j Nd.zero)
  | 0, h => by omega
  | m + 1, h => by
    rw [goodL, List.getD_eq_getElem?_getD]
    by_cases e : j = m
    · subst e
      rw [List.getElem?_append_right (by rw [goodL_len]; omega), goodL_len]
      simp
    · rw [List.getElem?_append_left (by rw [goodL_len]; omega), ← List.getD_eq_getElem?_getD]
      exact goodL_get ns xs (by omega)
theorem goodL_same (ns : List Nd) (xs : List Int) {j m : Nat} (h : j < m) {n : Nat} (hn : j < n) : (goodL ns xs m).getD j false = (goodL ns xs n).getD j false := by rw [goodL_get ns xs h, goodL_get ns xs hn]
/-- Where only Atoms are known, what can be had is marked. -/
theorem had_good {ns : List Nd} {xs : List Int} (ha : allFrom ns ns 0 = true) (hx : ∀ j : Nat, j < ns.length → (j : Int) ∈ xs → (ns.getD j Nd.zero).k = 1) {k : Nat} (h : Had ns (fun j => (j : Int) ∈ xs) k) : (goodL ns xs ns.length).getD k false = true := by
  have one : ∀ {k : Nat}, k < ns.length → oneK (ns.getD k Nd.zero).k = true → (goodL ns xs ns.length).getD k false = (goodL ns xs ns.length).getD (ns.getD k Nd.zero).a.toNat false := fun {k} hk h1 => by
    have hn1 : (ns.getD k Nd.zero).k ≠ 1 := fun e => by rw [e] at h1; simp [oneK] at h1
    have hb := nodeB_true (all_at ha hk).1
    rw [goodL_get ns xs hk]
    unfold goodF
    rw [if_neg hn1, if_pos h1]
    exact goodL_same ns xs (by omega) (by omega)
  have two : ∀ {k : Nat}, k < ns.length → (ns.getD k Nd.zero).k ≠ 1 → oneK (ns.getD k Nd.zero).k = false → (goodL ns xs ns.length).getD k false = ((goodL ns xs ns.length).getD (ns.getD k Nd.zero).a.toNat false && (goodL ns xs ns.length).getD (ns.getD k Nd.zero).b.toNat false) := fun {k} hk hn1 h1 => by
    have hb := nodeB_true (all_at ha hk).1
    rw [h1] at hb
    rw [goodL_get ns xs hk]
    unfold goodF
    rw [if_neg hn1, if_neg (by rw [h1]; simp)]
    rw [goodL_same ns xs (j := (ns.getD k Nd.zero).a.toNat) (m := k) (n := ns.length) (by omega) (by omega), goodL_same ns xs (j := (ns.getD k Nd.zero).b.toNat) (m := k) (n := ns.length) (by omega) (by omega)]
  refine h (fun k => (goodL ns xs ns.length).getD k false = true) ⟨?_, ?_, ?_, ?_, ?_, ?_, ?_, ?_, ?_, ?_⟩
  · intro k hk hm
    rw [goodL_get ns xs hk]
    unfold goodF
    rw [if_pos (hx k hk hm), decide_eq_true hm, Bool.or_true]
  · intro k hk h1 h2
    rw [goodL_get ns xs hk]
    unfold goodF
    rw [if_pos h1, decide_eq_true h2, Bool.true_or]
  · intro k hk h1 h2
    rw [one hk h1]; exact h2
  · intro k hk h1 h2 h3 h4 h5
    rw [two hk h1 h3, h4, h5]; rfl
  · intro k p hk h1 h2 hp h3 h4 h5
    rw [one hp (by rw [h3]; rfl), h4] at h5
    rw [two hk (by omega) (by rw [h1]; rfl), h2, h5]; rfl
  · intro k p hk h1 h2 hp h3 h4 h5
    rw [one hp (by rw [h3]; rfl), h4] at h5
    rw [two hk (by omega) (by rw [h1]; rfl), h2, h5]; rfl
  · intro k hk h1 h2
    rw [two hk (by omega) (by rw [h1]; rfl), Bool.and_eq_true] at h2
    exact h2.1
  · intro k hk h1 h2
    rw [two hk (by omega) (by rw [h1]; rfl), Bool.and_eq_true] at h2
    exact h2.2
  · intro k hk h1 h2
    rw [two hk (by omega) (by rw [h1]; rfl), Bool.and_eq_true] at h2
    exact h2.2
  · intro k hk h1 h2 _
    rw [two hk (by omega) (by rw [h1]; rfl), Bool.and_eq_true] at h2
    exact h2.2
/-- An Atom that is not open and not known can't be had, nor what is made of it by two. -/
theorem atom_not {ns : List Nd} {xs : List Int} (ha : allFrom ns ns 0 = true) (hx : ∀ j : Nat, j < ns.length → (j : Int) ∈ xs → (ns.getD j Nd.zero).k = 1) {c : Nat} (hc : c < ns.length) (h1 : (ns.getD c Nd.zero).k = 1) (h2 : 1000 ≤ (ns.getD c Nd.zero).n) (h3 : ¬ (c : Int) ∈ xs) : (goodL ns xs ns.length).getD c false = false := by
  rw [goodL_get ns xs hc]
  unfold goodF
  rw [if_pos h1, decide_eq_false h3, decide_eq_false (by omega), Bool.or_false]
theorem two_not {ns : List Nd} {xs : List Int} (ha : allFrom ns ns 0 = true) (hx : ∀ j : Nat, j < ns.length → (j : Int) ∈ xs → (ns.getD j Nd.zero).k = 1) {k : Nat} (hk : k < ns.length) (h1 : (ns.getD k Nd.zero).k ≠ 1) (h4 : oneK (ns.getD k Nd.zero).k = false) (h5 : (goodL ns xs ns.length).getD (ns.getD k Nd.zero).a.toNat false = false) : ¬ Had ns (fun j => (j : Int) ∈ xs) k := fun h => by
  have hg := had_good ha hx h
  have hb := nodeB_true (all_at ha hk).1
  rw [h4] at hb
  rw [goodL_get ns xs hk] at hg
  unfold goodF at hg
  rw [if_neg h1, if_neg (by rw [h4]; simp), goodL_same ns xs (j := (ns.getD k Nd.zero).a.toNat) (m := k) (n := ns.length) (by omega) (by omega), h5] at hg
  simp at hg
end Go.Proofs.Ytffnadnndmmliaa

namespace Go.Proofs.Ytffnadnndmmliaa
open Go.RowKit
set_option linter.unusedVariables false
/-- A row of bools in the making, at g. -/
abbrev BoolsAt (B g n : Nat) (w : World) (bs : List Bool) : Prop := w.ownsRow B 4 1 (.slice (some ⟨g, 0, none⟩) n n) n (bs.map Value.bool)
theorem BoolsAt.cell {B g n : Nat} {w : World} {bs : List Bool} (h : BoolsAt B g n w bs) {j : Nat} (hj : j < n) : w.cell? ⟨g, j, none⟩ = some (.bool (bs.getD j false)) := by
  have hl : bs.length = n := by have := h.1; simpa using this
  rw [World.ownsRow.cellAt h j (by omega), List.getElem?_map, List.getElem?_eq_getElem (by omega), List.getD_eq_getElem?_getD, List.getElem?_eq_getElem (by omega)]; rfl
theorem BoolsAt.set {B g n : Nat} {w : World} {bs : List Bool} (h : BoolsAt B g n w bs) (j : Nat) : BoolsAt B g n (w.setCell ⟨g, j, none⟩ (.bool true)) (bs.set j true) := by
  have := (World.ownsRow.stored h j (.bool true)).1
  rw [← List.map_set] at this
  exact this
theorem BoolsAt.next2 {B g n : Nat} {w : World} {bs : List Bool} (h : BoolsAt B g n w bs) (o p : Obj) : BoolsAt B g n ((w.alloc o).alloc p) bs := own_next h (((Below.refl _ _).alloc (Nat.le_refl _) o).alloc (by simp) p)
theorem gb_two {w w' : World} {r : Option Nat} (h : w.grownBy w' r) (o p : Obj) : w.grownBy ((w'.alloc o).alloc p) r := grown_trans h (grown_trans (World.grownBy_alloc _ _ _) (World.grownBy_alloc _ _ _))
theorem BoolsAt.next {B g n : Nat} {w w' : World} {bs : List Bool} (h : BoolsAt B g n w bs) (hb : Below w.heap.size w w') : BoolsAt B g n w' bs := own_next h hb
set_option maxHeartbeats 6400000 in
set_option maxRecDepth 20000 in
theorem gives_any (B g ca : Nat) (a : Option Addr) (ns : List Nd) (bs : List Bool) (k : Nat) (w : World) (hl : ns.length ≤ 3000) (hk : k < ns.length) (hn : nodeB (ns.getD k Nd.zero) k = true) (hr : RowN B w a ns) (hB : B ≤ g) (hBs : B ≤ w.heap.size) (ho : BoolsAt B g ns.length w bs) :
    Calls Try.prog 189 #[.agg #[.slice a ns.length ca], .slice (some ⟨g, 0, none⟩) ns.length ns.length, .int .i64 (k : Int)] w fun e w' => e = .returned (.bool (givesT bs (ns.getD k Nd.zero))) ∧ BoolsAt B g ns.length w' (givesB bs (ns.getD k Nd.zero)) ∧ w.grownBy w' (some g) := by
  obtain ⟨bA, oA, rfl⟩ := hr.addr hk
  have hg : g < w.heap.size := (World.ownsRow.lt ho _ (by simp [Value.ownBlock])).2
  have hb0 : Below w.heap.size w (w.alloc (.cells #[.slice (some ⟨bA, oA, none⟩) ns.length ca] 28)) := (Below.refl _ _).alloc (Nat.le_refl _) _
  obtain ⟨hbA, c0, c1, c2, c3⟩ := hr.at (hb0.mono hBs) hk
  obtain ⟨x, hx⟩ : ∃ x, ns.getD k Nd.zero = x := ⟨_, rfl⟩
  rw [hx] at c0 c1 c2 c3 hn ⊢
  have hk0 : (0 : Int) ≤ (k : Int) := by omega
  have hk1 : (k : Int) < (ns.length : Int) := by omega
  have HB0 : Hid (Below w.heap.size w (w.alloc (.cells #[.slice (some ⟨bA, oA, none⟩) ns.length ca] 28))) := hb0
  obtain ⟨xk, xn, xa, xb⟩ := x
  simp only at c0 c1 c2 c3
  clear hx hr hb0 hbA
  by_cases h2 : xk = 2 ∨ xk = 8 ∨ xk = 5
  · have hnt : nodeB ⟨xk, xn, xa, xb⟩ k = true := hn
    have hone : oneK xk = false := by rcases h2 with rfl | rfl | rfl <;> rfl
    rcases nodeB_true hnt with h1 | h1 | h1
    · simp only at h1; omega
    · simp only at h1; rw [hone] at h1; simp at h1
    · simp only at h1
      obtain ⟨-, -, rfl, h4, h5, -, h7, h8⟩ := h1
      obtain ⟨i, rfl⟩ := Int.eq_ofNat_of_zero_le h4
      have hi0 : (0 : Int) ≤ (i : Int) := by omega
      have hi1 : (i : Int) < (ns.length : Int) := by omega
      have hi2 : i < ns.length := by omega
      obtain ⟨j, rfl⟩ := Int.eq_ofNat_of_zero_le h7
      have hj0 : (0 : Int) ≤ (j : Int) := by omega
      have hj1 : (j : Int) < (ns.length : Int) := by omega
      have hj2 : j < ns.length := by omega
      have HE : Hid (Below w.heap.size w ((w.alloc (.cells #[.slice (some ⟨bA, oA, none⟩) ns.length ca] 28)).alloc (.cells #[.int .i64 xk, .int .i64 0, .int .i64 (i : Int), .int .i64 (j : Int)] 45))) := HB0.out.alloc (by simp) _
      have HO : Hid (BoolsAt B g ns.length ((w.alloc (.cells #[.slice (some ⟨bA, oA, none⟩) ns.length ca] 28)).alloc (.cells #[.int .i64 xk, .int .i64 0, .int .i64 (i : Int), .int .i64 (j : Int)] 45)) bs) := BoolsAt.next ho HE.out
      have cB := BoolsAt.cell HO.out hi2
      have cC := BoolsAt.cell HO.out hj2
      have fB := World.ownsRow.frozenAt HO.out i
      have fC := World.ownsRow.frozenAt HO.out j
      have HG : Hid (w.grownBy ((w.alloc (.cells #[.slice (some ⟨bA, oA, none⟩) ns.length ca] 28)).alloc (.cells #[.int .i64 xk, .int .i64 0, .int .i64 (i : Int), .int .i64 (j : Int)] 45)) (some g)) := grown_below HE.out _
      clear hn hnt hone h4 h5 h7 h8 HB0
      obtain ⟨t1, ht1⟩ : ∃ t, bs.getD i false = t := ⟨_, rfl⟩
      obtain ⟨t2, ht2⟩ : ∃ t, bs.getD j false = t := ⟨_, rfl⟩
      have H1 : Hid (bs.getD i false = t1) := ht1
      have H2 : Hid (bs.getD j false = t2) := ht2
      rw [ht1] at cB
      rw [ht2] at cC
      clear ht1 ht2
      rcases h2 with rfl | rfl | rfl
      · have HM : Hid (givesT bs ⟨2, 0, (i : Int), (j : Int)⟩ = (!t1 || !t2) ∧ givesB bs ⟨2, 0, (i : Int), (j : Int)⟩ = (bs.set i true).set j true) := ⟨by unfold givesT; rw [if_pos rfl]; simp only [Int.toNat_natCast]; rw [H1.out, H2.out], by unfold givesB; rw [if_pos rfl]; simp⟩
        have cD := BoolsAt.cell (BoolsAt.next2 (BoolsAt.set ho i) (.cells #[.slice (some ⟨bA, oA, none⟩) ns.length ca] 28) (.cells #[.int .i64 2, .int .i64 0, .int .i64 (i : Int), .int .i64 (j : Int)] 45)) hj2
        have fD := World.ownsRow.frozenAt (BoolsAt.next2 (BoolsAt.set ho i) (.cells #[.slice (some ⟨bA, oA, none⟩) ns.length ca] 28) (.cells #[.int .i64 2, .int .i64 0, .int .i64 (i : Int), .int .i64 (j : Int)] 45)) j
        have HS2 : Hid _ := BoolsAt.next2 (BoolsAt.set (BoolsAt.set ho i) j) (.cells #[.slice (some ⟨bA, oA, none⟩) ns.length ca] 28) (.cells #[.int .i64 2, .int .i64 0, .int .i64 (i : Int), .int .i64 (j : Int)] 45)
        have HG2 : Hid _ := gb_two (gb_set (gb_set (gb_refl w (some g)) i (.bool true)) j (.bool true)) (.cells #[.slice (some ⟨bA, oA, none⟩) ns.length ca] 28) (.cells #[.int .i64 2, .int .i64 0, .int .i64 (i : Int), .int .i64 (j : Int)] 45)
        clear H1 H2 HO HG HE ho
        cases t1 <;> cases t2
        all_goals
          go_enter Try.func189, Try.ntmps189
          go_wp2
          go_ret
          exact ⟨by rw [HM.out.1]; rfl, by rw [HM.out.2]; exact HS2.out, HG2.out⟩
      · have HM : Hid (givesT bs ⟨8, 0, (i : Int), (j : Int)⟩ = !t2 ∧ givesB bs ⟨8, 0, (i : Int), (j : Int)⟩ = bs.set j true) := ⟨by unfold givesT; rw [if_neg (by show ¬ (8 : Int) = 2; decide), if_pos rfl]; simp only [Int.toNat_natCast]; rw [H2.out], by unfold givesB; rw [if_neg (by show ¬ (8 : Int) = 2; decide), if_pos rfl]; simp⟩
        have HS2 : Hid _ := BoolsAt.next2 (BoolsAt.set ho j) (.cells #[.slice (some ⟨bA, oA, none⟩) ns.length ca] 28) (.cells #[.int .i64 8, .int .i64 0, .int .i64 (i : Int), .int .i64 (j : Int)] 45)
        have HG2 : Hid _ := gb_two (gb_set (gb_refl w (some g)) j (.bool true)) (.cells #[.slice (some ⟨bA, oA, none⟩) ns.length ca] 28) (.cells #[.int .i64 8, .int .i64 0, .int .i64 (i : Int), .int .i64 (j : Int)] 45)
        clear H1 H2 HO HG HE ho
        cases t2
        all_goals
          go_enter Try.func189, Try.ntmps189
          go_wp2
          go_ret
          exact ⟨by rw [HM.out.1]; rfl, by rw [HM.out.2]; exact HS2.out, HG2.out⟩
      · have HM : Hid (givesT bs ⟨5, 0, (i : Int), (j : Int)⟩ = (t1 && !t2) ∧ givesB bs ⟨5, 0, (i : Int), (j : Int)⟩ = if t1 = true then bs.set j true else bs) := ⟨by unfold givesT; rw [if_neg (by show ¬ (5 : Int) = 2; decide), if_neg (by show ¬ (5 : Int) = 8; decide), if_pos rfl]; simp only [Int.toNat_natCast]; rw [H1.out, H2.out], by unfold givesB; rw [if_neg (by show ¬ (5 : Int) = 2; decide), if_neg (by show ¬ (5 : Int) = 8; decide), if_pos rfl]; simp only [Int.toNat_natCast]; rw [H1.out]⟩
        have HS2 : Hid _ := BoolsAt.next2 (BoolsAt.set ho j) (.cells #[.slice (some ⟨bA, oA, none⟩) ns.length ca] 28) (.cells #[.int .i64 5, .int .i64 0, .int .i64 (i : Int), .int .i64 (j : Int)] 45)
        have HG2 : Hid _ := gb_two (gb_set (gb_refl w (some g)) j (.bool true)) (.cells #[.slice (some ⟨bA, oA, none⟩) ns.length ca] 28) (.cells #[.int .i64 5, .int .i64 0, .int .i64 (i : Int), .int .i64 (j : Int)] 45)
        clear H1 H2 HE ho
        cases t1
        · clear HS2 HG2
          go_enter Try.func189, Try.ntmps189
          go_wp2
          go_ret
          exact ⟨by rw [HM.out.1]; rfl, by rw [HM.out.2]; exact HO.out, HG.out⟩
        · clear HO HG
          cases t2
          all_goals
            go_enter Try.func189, Try.ntmps189
            go_wp2
            go_ret
            exact ⟨by rw [HM.out.1]; rfl, by rw [HM.out.2]; exact HS2.out, HG2.out⟩
  · have q2 : ¬ xk = 2 := fun e => h2 (.inl e)
    have q8 : ¬ xk = 8 := fun e => h2 (.inr (.inl e))
    have q5 : ¬ xk = 5 := fun e => h2 (.inr (.inr e))
    have HM : Hid (givesT bs ⟨xk, xn, xa, xb⟩ = false ∧ givesB bs ⟨xk, xn, xa, xb⟩ = bs) := ⟨by unfold givesT; rw [if_neg q2, if_neg q8, if_neg q5], by unfold givesB; rw [if_neg q2, if_neg q8, if_neg q5]⟩
    have HE : Hid (Below w.heap.size w ((w.alloc (.cells #[.slice (some ⟨bA, oA, none⟩) ns.length ca] 28)).alloc (.cells #[.int .i64 xk, .int .i64 xn, .int .i64 xa, .int .i64 xb] 45))) := HB0.out.alloc (by simp) _
    have HO : Hid (BoolsAt B g ns.length ((w.alloc (.cells #[.slice (some ⟨bA, oA, none⟩) ns.length ca] 28)).alloc (.cells #[.int .i64 xk, .int .i64 xn, .int .i64 xa, .int .i64 xb] 45)) bs) := BoolsAt.next ho HE.out
    have HG : Hid (w.grownBy ((w.alloc (.cells #[.slice (some ⟨bA, oA, none⟩) ns.length ca] 28)).alloc (.cells #[.int .i64 xk, .int .i64 xn, .int .i64 xa, .int .i64 xb] 45)) (some g)) := grown_below HE.out _
    clear hn h2 HB0 ho HE
    go_enter Try.func189, Try.ntmps189
    go_wp2
    go_ret
    exact ⟨by rw [HM.out.1]; rfl, by rw [HM.out.2]; exact HO.out, HG.out⟩
end Go.Proofs.Ytffnadnndmmliaa
