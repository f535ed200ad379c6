/- The contract of chapter 5's l05Pubs, the specification's. -/
import Derived.Test.YtffnadnndmmliaaPlainReach2
import Derived.Test.YtffnadnndmmliaaLawInts
import Derived.Test.YtffnadnndmmliaaCurW
import Derived.WalkKit
import Derived.WalkLawsBesides
import Derived.WalkSpells
import Derived.OwnWalk
import Derived.Laws.OwnMore
import Derived.Laws.Rows
namespace Go.Proofs.Ytffnadnndmmliaa
open Go.RowKit
set_option linter.unusedVariables false
theorem repl_next (k : Nat) : (List.replicate (k + 1) (-1 : Int)).map (Value.int .i64) = (List.replicate k (-1 : Int)).map (Value.int .i64) ++ [.int .i64 (-1)] := by
  rw [List.replicate_succ', List.map_append]; rfl
/-- The pubs of the first m nodes. -/
def PubsTo (ns : List Nd) (m : Nat) (ps : List Int) : Prop := ps.length = ns.length ∧ ∀ i, i < ns.length → ps.getD i 0 = pubN ns i m
theorem PubsTo.zero (ns : List Nd) : PubsTo ns 0 (List.replicate ns.length (-1 : Int)) := ⟨by simp, fun i hi => by rw [List.getD_eq_getElem?_getD, List.getElem?_replicate, if_pos hi]; rfl⟩
theorem PubsTo.pass {ns : List Nd} {m : Nat} {ps : List Int} (h : PubsTo ns m ps) (hk : (ns.getD m Nd.zero).k ≠ 6) : PubsTo ns (m + 1) ps := ⟨h.1, fun i hi => by rw [h.2 i hi, pubN, if_neg (fun e => hk e.1)]⟩
theorem PubsTo.put {ns : List Nd} {m : Nat} {ps : List Int} (h : PubsTo ns m ps) (hk : (ns.getD m Nd.zero).k = 6) : PubsTo ns (m + 1) (ps.set (ns.getD m Nd.zero).a.toNat (m : Int)) := by
  refine ⟨by simp [h.1], fun i hi => ?_⟩
  rw [List.getD_eq_getElem?_getD, List.getElem?_set, pubN]
  by_cases e : (ns.getD m Nd.zero).a.toNat = i
  · rw [if_pos e, if_pos (show (ns.getD m Nd.zero).a.toNat < ps.length by rw [e, h.1]; exact hi), if_pos ⟨hk, e⟩]; rfl
  · rw [if_neg e, if_neg (fun q => e q.2), ← List.getD_eq_getElem?_getD, h.2 i hi]
set_option maxHeartbeats 6400000 in
set_option maxRecDepth 20000 in
theorem pubs_any (ca : Nat) (a : Option Addr) (ns : List Nd) (w : World) (hl : ns.length ≤ 3000) (hN : ∀ i, i < ns.length → nodeB (ns.getD i Nd.zero) i = true) (hr : RowN w.heap.size w a ns) :
    Calls Try.prog 187 #[.agg #[.slice a ns.length ca]] w fun e w' => ∃ v ps, e = .returned v ∧ PubsTo ns ns.length ps ∧ OwnInt w.heap.size w' v ps ∧ Below w.heap.size w w' := by
  obtain ⟨i0, hi, hz0, hz1, hz2⟩ := info_parts infoIntS
  have HR : Hid (RowN w.heap.size w a ns) := hr
  have HN : Hid (∀ i, i < ns.length → nodeB (ns.getD i Nd.zero) i = true) := hN
  clear hr hN
  go_enter Try.func187, Try.ntmps187
  go_wp2
  go_loopw [3, 4] (fun v i wr => ∃ k : Nat, k ≤ ns.length ∧ i = .int .i64 (k : Int) ∧ wr.ownsRow (w.heap.size + 1) 3 1 v k ((List.replicate k (-1 : Int)).map (Value.int .i64)) ∧ Below w.heap.size w wr ∧ wr.cell? ⟨w.heap.size, 0, none⟩ = some (.slice a ns.length ca) ∧ w.heap.size < wr.heap.size)
    (fun _ i _ => ns.length - (intOf i).toNat)
  case atStart => exact ⟨0, Nat.zero_le _, rfl, by have := World.ownsRow_made (w.alloc (.cells #[.slice a ns.length ca] 28)) #[] 0 (base := w.heap.size + 1) (e := 3) (size := 1) (by simp) (by decide) rfl; simpa using this, ((Below.refl _ _).alloc (Nat.le_refl _) _).alloc (by simp) _, by rw [cell_of_row _ w.heap.size 0 _ _ _ ((heap_alloc_old _ _ (by simp)).trans (heap_alloc_new w _))]; rfl, by simp; omega⟩
  case round =>
    obtain ⟨k, hk, rfl, hown, hbel, hcA, hsz⟩ := hrel
    by_cases hlt : k < ns.length
    · have hi0 : (0 : Int) ≤ (k : Int) := by omega
      have hi1 : (k : Int) < (ns.length : Int) := by omega
      go_wp2_with (at_builtin; refine wpList_append_own _ rfl _ _ 38 rfl (w.heap.size + 1) 3 i0 (.int .i64 0) 1 8 Try.underlying38 hi hz0 hz1 hz2 rfl (by decide) _ _ _ rfl (hown.alloc _) ⟨wr.heap.size, 0, none⟩ 1 1 [.int .i64 (-1)] rfl rfl ?c1 ?c2 ?c3 ?c4 ?c5 ?_)
      case c1 => exact cell_one_new _ _ _
      case c2 => intro u hu; simp at hu; subst hu; rfl
      case c3 => unfold maxLen; omega
      case c4 => omega
      case c5 => simp; omega
      intro v' w2 hown' hgrow _
      obtain ⟨hB2, hA2, hs2⟩ := app_step hown hbel hcA hsz hgrow
      have HO : Hid (w2.ownsRow (w.heap.size + 1) 3 1 v' (k + 1) ((List.replicate (k + 1) (-1 : Int)).map (Value.int .i64))) := by show World.ownsRow _ _ _ _ _ _ _; rw [repl_next]; simpa using hown'
      clear hown' hgrow hown
      go_wp2
      go_roundw
      case rel => exact ⟨k + 1, by omega, by go_num, HO.out, hB2, hA2, hs2⟩
      case measure => simp [intOf] <;> omega
    · obtain rfl : k = ns.length := by omega
      go_wp2
      have hPZ : PubsTo ns 0 (List.replicate ns.length (-1 : Int)) := PubsTo.zero ns
      have hw0 : wr.ownsRow (w.heap.size + 1) 3 1 u3 ns.length ((List.replicate ns.length (-1 : Int)).map (Value.int .i64)) := hown
      have HW : Hid _ := hw0
      clear hw0 hown
      generalize wr = wp at *
      go_loopw [5] (fun i wr => ∃ (k : Nat) (ps : List Int), k ≤ ns.length ∧ i = .int .i64 (k : Int) ∧ Hid (PubsTo ns k ps) ∧ wr.ownsRow (w.heap.size + 1) 3 1 u3 ns.length (ps.map (Value.int .i64)) ∧ Below w.heap.size w wr ∧ wr.cell? ⟨w.heap.size, 0, none⟩ = some (.slice a ns.length ca) ∧ w.heap.size < wr.heap.size)
        (fun i _ => ns.length - (intOf i).toNat)
      case atStart => exact ⟨0, _, Nat.zero_le _, rfl, hPZ, HW.out, hbel, hcA, hsz⟩
      case round =>
        clear HW hPZ hbel hcA hsz hlt
        obtain ⟨k, ps, hk, rfl, HP, hown, hbel, hcA, hsz⟩ := hrel
        by_cases hlt : k < ns.length
        · have hi0 : (0 : Int) ≤ (k : Int) := by omega
          have hi1 : (k : Int) < (ns.length : Int) := by omega
          obtain ⟨bA, oA, rfl⟩ := HR.out.addr hlt
          obtain ⟨hbA, c0, c1, c2, c3⟩ := HR.out.at hbel hlt
          have hnk := HN.out k hlt
          by_cases h6 : (ns.getD k Nd.zero).k = 6
          · have HP2 : Hid _ := HP.out.put h6
            obtain ⟨g, cap, rfl, hg, hgl, hcells⟩ := own_ints hown (by omega)
            have hnt := nodeB_true hnk
            clear hnk
            have hne : g ≠ bA := by omega
            generalize ns.getD k Nd.zero = x at c0 c1 c2 c3 h6 HP2 hnt
            obtain ⟨xk, xn, xa, xb⟩ := x
            simp only at c0 c1 c2 c3 h6 HP2
            subst h6
            have h1 : 0 ≤ xa ∧ xa < (k : Int) := by rcases hnt with h | h | h <;> simp only at h <;> omega
            obtain ⟨i, rfl⟩ := Int.eq_ofNat_of_zero_le h1.1
            have hj0 : (0 : Int) ≤ (i : Int) := by omega
            have hj1 : (i : Int) < (ns.length : Int) := by omega
            have cI := hcells i (by omega)
            have fI := World.ownsRow.frozenAt hown i
            have HS : Hid ((wr.setCell ⟨g, i, none⟩ (.int .i64 (k : Int))).ownsRow (w.heap.size + 1) 3 1 (.slice (some ⟨g, 0, none⟩) ns.length cap) ns.length ((ps.set i (k : Int)).map (Value.int .i64))) := by show World.ownsRow _ _ _ _ _ _ _; rw [List.map_set]; exact (World.ownsRow.stored hown i (.int .i64 (k : Int))).1
            have HB : Hid (Below w.heap.size w (wr.setCell ⟨g, i, none⟩ (.int .i64 (k : Int)))) := hbel.setCell (by show w.heap.size ≤ g; omega) _
            have HC : Hid ((wr.setCell ⟨g, i, none⟩ (.int .i64 (k : Int))).cell? ⟨w.heap.size, 0, none⟩ = some (.slice (some ⟨bA, oA, none⟩) ns.length ca)) := by show _ = _; rw [World.cell?_of_block (w := wr) (Below.heap_setCell _ _ _ _ (by show w.heap.size ≠ g; omega))]; exact hcA
            clear hcells hnt hown hbel HP
            go_wp2
            go_roundw
            case rel => exact ⟨k + 1, _, by omega, by go_num, HP2, HS.out, HB.out, HC.out, by simpa using hsz⟩
            case measure => simp [intOf] <;> omega
          · have HP2 : Hid _ := HP.out.pass h6
            have hq : ((ns.getD k Nd.zero).k == 6) = false := beq_eq_false_iff_ne.2 h6
            clear hnk HP h6
            generalize ns.getD k Nd.zero = x at c0 c1 c2 c3 hq
            have HOW : Hid _ := hown
            clear hown
            go_wp2
            go_roundw
            case rel => exact ⟨k + 1, _, by omega, by go_num, HP2, HOW.out, hbel, hcA, hsz⟩
            case measure => simp [intOf] <;> omega
        · obtain rfl : k = ns.length := by omega
          have HOW : Hid (OwnInt w.heap.size wr u3 ps) := by show World.ownsRow _ _ _ _ _ _ _; rw [HP.out.1]; exact own_base hown (by omega)
          clear hown
          go_wp2
          go_ret
          exact ⟨_, ps, rfl, HP.out, HOW.out, hbel⟩
end Go.Proofs.Ytffnadnndmmliaa

namespace Go.Proofs.Ytffnadnndmmliaa
open Go.RowKit
set_option linter.unusedVariables false

/-- What is known is had. -/
def Kn (ns : List Nd) (xs : List Int) (m : Nat) (bs : List Bool) : Prop := ∀ i, i < m → ∀ k, k < ns.length → xs.getD i 0 = (k : Int) → bs.getD k false = true
def KOf (xs : List Int) : Nat → Prop := fun j => (j : Int) ∈ xs
theorem Kn.all {ns : List Nd} {xs : List Int} {bs : List Bool} (h : Kn ns xs xs.length bs) : ∀ k, k < ns.length → (k : Int) ∈ xs → bs.getD k false = true := fun k hk hx => by
  obtain ⟨i, hi, e⟩ := List.getElem_of_mem hx
  exact h i hi k hk (by rw [List.getD_eq_getElem?_getD, List.getElem?_eq_getElem hi]; simpa using e)
theorem Kn.mono {ns : List Nd} {xs : List Int} {m : Nat} {bs cs : List Bool} (h : Kn ns xs m bs) (hm : ∀ j, bs.getD j false = true → cs.getD j false = true) : Kn ns xs m cs := fun i hi k hk e => hm k (h i hi k hk e)
theorem mem_getD {xs : List Int} {i : Nat} (hi : i < xs.length) : xs.getD i 0 ∈ xs := by
  rw [List.getD_eq_getElem?_getD, List.getElem?_eq_getElem hi]; exact List.getElem_mem hi
theorem Sound.none (ns : List Nd) (K : Nat → Prop) : Sound ns K (List.replicate ns.length false) := ⟨by simp, fun k hk => by
  rw [List.getD_eq_getElem?_getD, List.getElem?_replicate] at hk
  split at hk <;> simp at hk⟩
/-- The first loop: known ones up to m. -/
def Start (ns : List Nd) (xs : List Int) (m : Nat) (bs : List Bool) : Prop := Sound ns (KOf xs) bs ∧ Kn ns xs m bs
theorem Start.zero (ns : List Nd) (xs : List Int) : Start ns xs 0 (List.replicate ns.length false) := ⟨Sound.none ns _, fun i hi => absurd hi (Nat.not_lt_zero _)⟩
theorem Start.pass {ns : List Nd} {xs : List Int} {m : Nat} {bs : List Bool} (h : Start ns xs m bs) (hx : inB (xs.getD m 0) 0 ((ns.length : Int) - 1) = false) : Start ns xs (m + 1) bs := ⟨h.1, fun i hi k hk e => by
  by_cases q : i = m
  · subst q
    rw [e, inB_mk ⟨by omega, by omega⟩] at hx
    simp at hx
  · exact h.2 i (by omega) k hk e⟩
theorem Start.put {ns : List Nd} {xs : List Int} {m k : Nat} {bs : List Bool} (h : Start ns xs m bs) (hm : m < xs.length) (hk : k < ns.length) (e : xs.getD m 0 = (k : Int)) : Start ns xs (m + 1) (bs.set k true) := ⟨h.1.set (.known hk (by show (k : Int) ∈ xs; rw [← e]; exact mem_getD hm)), fun i hi j hj e' => by
  by_cases q : i = m
  · subst q
    have : j = k := by omega
    subst this
    rw [getD_setT, if_pos ⟨rfl, by rw [h.1.1]; exact hj⟩]
  · exact set_mono (h.2 i (by omega) j hj e')⟩
/-- A round's first loop, behind the first k nodes. -/
structure Pass1 (ns : List Nd) (xs : List Int) (bs0 : List Bool) (k : Nat) (sm : Bool) (bs : List Bool) : Prop where
  sound : Sound ns (KOf xs) bs
  kn : Kn ns xs xs.length bs
  no : sm = false → bs = bs0 ∧ ∀ j, j < k → madeB ns bs0 (ns.getD j Nd.zero) = true → bs0.getD j false = true
  yes : sm = true → cnt bs < cnt bs0
theorem Pass1.le {ns : List Nd} {xs : List Int} {bs0 : List Bool} {k : Nat} {sm : Bool} {bs : List Bool} (h : Pass1 ns xs bs0 k sm bs) : cnt bs ≤ cnt bs0 := by
  cases sm
  · rw [(h.no rfl).1]; exact Nat.le_refl _
  · exact Nat.le_of_lt (h.yes rfl)
theorem Pass1.zero {ns : List Nd} {xs : List Int} {bs0 : List Bool} (h : Start ns xs xs.length bs0) : Pass1 ns xs bs0 0 false bs0 := ⟨h.1, h.2, fun _ => ⟨rfl, fun j hj => absurd hj (Nat.not_lt_zero _)⟩, fun e => by simp at e⟩
theorem Pass1.skip {ns : List Nd} {xs : List Int} {bs0 : List Bool} {k : Nat} {sm : Bool} {bs : List Bool} (h : Pass1 ns xs bs0 k sm bs) (hb : bs.getD k false = true ∨ madeB ns bs (ns.getD k Nd.zero) = false) : Pass1 ns xs bs0 (k + 1) sm bs := by
  refine ⟨h.sound, h.kn, fun e => ⟨(h.no e).1, fun j hj hm => ?_⟩, h.yes⟩
  by_cases q : j = k
  · subst q
    have e1 := (h.no e).1
    rw [e1] at hb
    rcases hb with hb | hb
    · exact hb
    · rw [hm] at hb; simp at hb
  · exact (h.no e).2 j (by omega) hm
theorem Pass1.put {ns : List Nd} (ha : allFrom ns ns 0 = true) {xs : List Int} {bs0 : List Bool} {k : Nat} {sm : Bool} {bs : List Bool} (h : Pass1 ns xs bs0 k sm bs) (hk : k < ns.length) (hb : bs.getD k false = false) (hm : madeB ns bs (ns.getD k Nd.zero) = true) : Pass1 ns xs bs0 (k + 1) true (bs.set k true) :=
  ⟨h.sound.set (made_had ha h.sound hk hm), h.kn.mono (fun j hj => set_mono hj), fun e => by simp at e, fun _ => Nat.lt_of_lt_of_le (cnt_set (by rw [h.sound.1]; exact hk) hb) h.le⟩
/-- A round's second loop, from the last node down to m. -/
structure Pass2 (ns : List Nd) (xs : List Int) (bs0 : List Bool) (m : Nat) (sm : Bool) (bs : List Bool) : Prop where
  sound : Sound ns (KOf xs) bs
  kn : Kn ns xs xs.length bs
  no : sm = false → bs = bs0 ∧ (∀ j, j < ns.length → madeB ns bs0 (ns.getD j Nd.zero) = true → bs0.getD j false = true) ∧ ∀ j, m ≤ j → j < ns.length → bs0.getD j false = true → givesT bs0 (ns.getD j Nd.zero) = false
  yes : sm = true → cnt bs < cnt bs0
theorem Pass2.le {ns : List Nd} {xs : List Int} {bs0 : List Bool} {k : Nat} {sm : Bool} {bs : List Bool} (h : Pass2 ns xs bs0 k sm bs) : cnt bs ≤ cnt bs0 := by
  cases sm
  · rw [(h.no rfl).1]; exact Nat.le_refl _
  · exact Nat.le_of_lt (h.yes rfl)
theorem Pass2.of {ns : List Nd} {xs : List Int} {bs0 : List Bool} {sm : Bool} {bs : List Bool} (h : Pass1 ns xs bs0 ns.length sm bs) : Pass2 ns xs bs0 ns.length sm bs := ⟨h.sound, h.kn, fun e => ⟨(h.no e).1, (h.no e).2, fun j h1 h2 => absurd h2 (by omega)⟩, h.yes⟩
theorem Pass2.skip {ns : List Nd} {xs : List Int} {bs0 : List Bool} {m : Nat} {sm : Bool} {bs : List Bool} (h : Pass2 ns xs bs0 (m + 1) sm bs) (hb : bs.getD m false = false ∨ givesT bs (ns.getD m Nd.zero) = false) : Pass2 ns xs bs0 m sm bs := by
  refine ⟨h.sound, h.kn, fun e => ⟨(h.no e).1, (h.no e).2.1, fun j h1 h2 hj => ?_⟩, h.yes⟩
  by_cases q : j = m
  · subst q
    have e1 := (h.no e).1
    rw [e1] at hb
    rcases hb with hb | hb
    · rw [hj] at hb; simp at hb
    · exact hb
  · exact (h.no e).2.2 j (by omega) h2 hj
theorem Pass2.put {ns : List Nd} (ha : allFrom ns ns 0 = true) {xs : List Int} {bs0 : List Bool} {m : Nat} {sm : Bool} {bs : List Bool} (h : Pass2 ns xs bs0 (m + 1) sm bs) (hm : m < ns.length) (hb : bs.getD m false = true) (ht : givesT bs (ns.getD m Nd.zero) = true) : Pass2 ns xs bs0 m true (givesB bs (ns.getD m Nd.zero)) := by
  refine ⟨gives_sound h.sound hm hb, h.kn.mono (fun j hj => gives_mono _ hj), fun e => by simp at e, fun _ => Nat.lt_of_lt_of_le (gives_cnt ht ?_ ?_) h.le⟩
  · rw [h.sound.1]
    have hn := (all_at ha hm).1
    rcases nodeB_true hn with h1 | h1 | h1
    · omega
    · omega
    · omega
  · rw [h.sound.1]
    have hn := (all_at ha hm).1
    rcases nodeB_true hn with h1 | h1 | h1
    · omega
    · omega
    · omega
/-- What stands at the loop's head. -/
structure Head (ns : List Nd) (xs : List Int) (sm : Bool) (bs : List Bool) : Prop where
  start : Start ns xs xs.length bs
  no : sm = false → Closed ns bs
theorem Head.of {ns : List Nd} {xs : List Int} {bs0 : List Bool} {sm : Bool} {bs : List Bool} (h : Pass2 ns xs bs0 0 sm bs) : Head ns xs sm bs := ⟨⟨h.sound, h.kn⟩, fun e => by
  obtain ⟨h1, h2, h3⟩ := h.no e
  rw [h1]
  exact closed_of h2 (fun k hk hb => h3 k (Nat.zero_le _) hk hb)⟩
theorem Head.reach {ns : List Nd} (ha : allFrom ns ns 0 = true) {xs : List Int} {bs : List Bool} (h : Head ns xs false bs) : IsReach ns xs bs := IsReach.of ha h.start.1 (h.no rfl) (Kn.all h.start.2)
/-- How many are still wanted, read out of memory. -/
def trueB : Value → Bool
  | .bool b => b
  | _ => false
def cntW (w : World) (g : Nat) : Nat → Nat
  | 0 => 0
  | n + 1 => (if trueB ((w.cell? ⟨g, n, none⟩).getD undef) = true then 0 else 1) + cntW w g n
def wants (s : Value) (w : World) (g n : Nat) : Nat := if trueB s = true then cntW w g n + 1 else 0
theorem cnt_take : ∀ (bs : List Bool) (n : Nat), n < bs.length → cnt (bs.take (n + 1)) = (if bs.getD n false = true then 0 else 1) + cnt (bs.take n)
  | [], _, h => by simp at h
  | b :: bs, 0, _ => by simp [cnt]
  | b :: bs, n + 1, h => by
    have := cnt_take bs n (by simpa using h)
    simp only [List.take_succ_cons, cnt, List.getD_cons_succ]
    omega
theorem cntW_take {B g n : Nat} {w : World} {bs : List Bool} (h : BoolsAt B g n w bs) : ∀ m, m ≤ n → cntW w g m = cnt (bs.take m)
  | 0, _ => by simp [cntW, cnt]
  | m + 1, hm => by
    have hl : bs.length = n := by have := h.1; simpa using this
    rw [cntW, cntW_take h m (by omega), BoolsAt.cell h (show m < n by omega), cnt_take bs m (by omega)]
    rfl
theorem cntW_eq {B g n : Nat} {w : World} {bs : List Bool} (h : BoolsAt B g n w bs) : cntW w g n = cnt bs := by
  have hl : bs.length = n := by have := h.1; simpa using this
  rw [cntW_take h n (Nat.le_refl _), List.take_of_length_le (by omega)]
theorem wants_less {B g n : Nat} {w w' : World} {bs bs' : List Bool} {sm : Bool} (h : BoolsAt B g n w bs) (h' : BoolsAt B g n w' bs') (hc : sm = true → cnt bs' < cnt bs) : wants (.bool sm) w' g n < wants (.bool true) w g n := by
  unfold wants
  rw [cntW_eq h, cntW_eq h']
  cases sm
  · simp [trueB]
  · have := hc rfl
    simp only [trueB, if_true]; omega
/-- What stands in memory while the loop runs. -/
structure RcS (w : World) (a pb : Option Addr) (ca cp : Nat) (ns : List Nd) (ps : List Int) (bs : List Bool) (wr : World) : Prop where
  bel : Below w.heap.size w wr
  cA : wr.cell? ⟨w.heap.size, 0, none⟩ = some (.slice a ns.length ca)
  has : BoolsAt (w.heap.size + 1) (w.heap.size + 1) ns.length wr bs
  pubs : RowI wr.heap.size wr pb ps
  ne : ∀ b off, pb = some ⟨b, off, none⟩ → b ≠ w.heap.size + 1
theorem RcS.size {w : World} {a pb : Option Addr} {ca cp : Nat} {ns : List Nd} {ps : List Int} {bs : List Bool} {wr : World} (h : RcS w a pb ca cp ns ps bs wr) : w.heap.size + 1 < wr.heap.size := (World.ownsRow.lt h.has _ (by simp [Value.ownBlock])).2
theorem RcS.next {w : World} {a pb : Option Addr} {ca cp : Nat} {ns : List Nd} {ps : List Int} {bs : List Bool} {wr w' : World} (h : RcS w a pb ca cp ns ps bs wr) (hb : Below wr.heap.size wr w') : RcS w a pb ca cp ns ps bs w' :=
  ⟨h.bel.trans (hb.mono h.bel.size), (hb.cell (p := ⟨w.heap.size, 0, none⟩) (by have := h.size; show w.heap.size < wr.heap.size; omega)).trans h.cA, BoolsAt.next h.has hb, h.pubs.grown hb, h.ne⟩
theorem RcS.grow {w : World} {a pb : Option Addr} {ca cp : Nat} {ns : List Nd} {ps : List Int} {bs bs' : List Bool} {wr w' : World} (h : RcS w a pb ca cp ns ps bs wr) (hg : wr.grownBy w' (some (w.heap.size + 1))) (hs : BoolsAt (w.heap.size + 1) (w.heap.size + 1) ns.length w' bs') : RcS w a pb ca cp ns ps bs' w' := by
  have hz := h.size
  refine ⟨h.bel.trans (gb_below hg (by omega) (by omega)), ?_, hs, ?_, h.ne⟩
  · exact hg.cell h.cA (by simp)
  · rcases h.pubs with h0 | ⟨b, off, e, hlt, hc⟩
    · exact .inl h0
    · refine .inr ⟨b, off, e, Nat.lt_of_lt_of_le hlt hg.size, fun j hj => hg.cell (hc j hj) ?_⟩
      have := h.ne b off e
      simpa using this
end Go.Proofs.Ytffnadnndmmliaa
