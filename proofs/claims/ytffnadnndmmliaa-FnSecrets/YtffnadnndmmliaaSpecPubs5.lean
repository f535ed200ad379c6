/- The contract of chapter 5's l05Pubs, the specification's. -/
import Derived.Test.YtffnadnndmmliaaPlainReach2
import Derived.Test.YtffnadnndmmliaaLawInts
import Derived.Test.YtffnadnndmmliaaCurW
import Derived.WalkKit
import Derived.WalkLawsBesides
import Derived.WalkSpells
import Derived.OwnWalk
import Derived.Laws.OwnMore
import Derived.Laws.Rows
namespace Go.Proofs.Ytffnadnndmmliaa
open Go.RowKit
set_option linter.unusedVariables false
theorem repl_next (k : Nat) : (List.replicate (k + 1) (-1 : Int)).map (Value.int .i64) = (List.replicate k (-1 : Int)).map (Value.int .i64) ++ [.int .i64 (-1)] := by
  rw [List.replicate_succ', List.map_append]; rfl
/-- The pubs of the first m nodes. -/
def PubsTo (ns : List Nd) (m : Nat) (ps : List Int) : Prop := ps.length = ns.length ∧ ∀ i, i < ns.length → ps.getD i 0 = pubN ns i m
theorem PubsTo.zero (ns : List Nd) : PubsTo ns 0 (List.replicate ns.length (-1 : Int)) := ⟨by simp, fun i hi => by rw [List.getD_eq_getElem?_getD, List.getElem?_replicate, if_pos hi]; rfl⟩
theorem PubsTo.pass {ns : List Nd} {m : Nat} {ps : List Int} (h : PubsTo ns m ps) (hk : (ns.getD m Nd.zero).k ≠ 6) : PubsTo ns (m + 1) ps := ⟨h.1, fun i hi => by rw [h.2 i hi, pubN, if_neg (fun e => hk e.1)]⟩
theorem PubsTo.put {ns : List Nd} {m : Nat} {ps : List Int} (h : PubsTo ns m ps) (hk : (ns.getD m Nd.zero).k = 6) : PubsTo ns (m + 1) (ps.set (ns.getD m Nd.zero).a.toNat (m : Int)) := by
  refine ⟨by simp [h.1], fun i hi => ?_⟩
  rw [List.getD_eq_getElem?_getD, List.getElem?_set, pubN]
  by_cases e : (ns.getD m Nd.zero).a.toNat = i
  · rw [if_pos e, if_pos (show (ns.getD m Nd.zero).a.toNat < ps.length by rw [e, h.1]; exact hi), if_pos ⟨hk, e⟩]; rfl
  · rw [if_neg e, if_neg (fun q => e q.2), ← List.getD_eq_getElem?_getD, h.2 i hi]
set_option maxHeartbeats 6400000 in
set_option maxRecDepth 20000 in
theorem pubs_any (ca : Nat) (a : Option Addr) (ns : List Nd) (w : World) (hl : ns.length ≤ 3000) (hN : ∀ i, i < ns.length → nodeB (ns.getD i Nd.zero) i = true) (hr : RowN w.heap.size w a ns) :
    Calls Try.prog 187 #[.agg #[.slice a ns.length ca]] w fun e w' => ∃ v ps, e = .returned v ∧ PubsTo ns ns.length ps ∧ OwnInt w.heap.size w' v ps ∧ Below w.heap.size w w' := by
  obtain ⟨i0, hi, hz0, hz1, hz2⟩ := info_parts infoIntS
  have HR : Hid (RowN w.heap.size w a ns) := hr
  have HN : Hid (∀ i, i < ns.length → nodeB (ns.getD i Nd.zero) i = true) := hN
  clear hr hN
  go_enter Try.func187, Try.ntmps187
  go_wp2
  go_loopw [3, 4] (fun v i wr => ∃ k : Nat, k ≤ ns.length ∧ i = .int .i64 (k : Int) ∧ wr.ownsRow (w.heap.size + 1) 3 1 v k ((List.replicate k (-1 : Int)).map (Value.int .i64)) ∧ Below w.heap.size w wr ∧ wr.cell? ⟨w.heap.size, 0, none⟩ = some (.slice a ns.length ca) ∧ w.heap.size < wr.heap.size)
    (fun _ i _ => ns.length - (intOf i).toNat)
  case atStart => exact ⟨0, Nat.zero_le _, rfl, by have := World.ownsRow_made (w.alloc (.cells #[.slice a ns.length ca] 28)) #[] 0 (base := w.heap.size + 1) (e := 3) (size := 1) (by simp) (by decide) rfl; simpa using this, ((Below.refl _ _).alloc (Nat.le_refl _) _).alloc (by simp) _, by rw [cell_of_row _ w.heap.size 0 _ _ _ ((heap_alloc_old _ _ (by simp)).trans (heap_alloc_new w _))]; rfl, by simp; omega⟩
  case round =>
    obtain ⟨k, hk, rfl, hown, hbel, hcA, hsz⟩ := hrel
    by_cases hlt : k < ns.length
    · have hi0 : (0 : Int) ≤ (k : Int) := by omega
      have hi1 : (k : Int) < (ns.length : Int) := by omega
      go_wp2_with (at_builtin; refine wpList_append_own _ rfl _ _ 38 rfl (w.heap.size + 1) 3 i0 (.int .i64 0) 1 8 Try.underlying38 hi hz0 hz1 hz2 rfl (by decide) _ _ _ rfl (hown.alloc _) ⟨wr.heap.size, 0, none⟩ 1 1 [.int .i64 (-1)] rfl rfl ?c1 ?c2 ?c3 ?c4 ?c5 ?_)
      case c1 => exact cell_one_new _ _ _
      case c2 => intro u hu; simp at hu; subst hu; rfl
      case c3 => unfold maxLen; omega
      case c4 => omega
      case c5 => simp; omega
      intro v' w2 hown' hgrow _
      obtain ⟨hB2, hA2, hs2⟩ := app_step hown hbel hcA hsz hgrow
      have HO : Hid (w2.ownsRow (w.heap.size + 1) 3 1 v' (k + 1) ((List.replicate (k + 1) (-1 : Int)).map (Value.int .i64))) := by show World.ownsRow _ _ _ _ _ _ _; rw [repl_next]; simpa using hown'
      clear hown' hgrow hown
      go_wp2
      go_roundw
      case rel => exact ⟨k + 1, by omega, by go_num, HO.out, hB2, hA2, hs2⟩
      case measure => simp [intOf] <;> omega
    · obtain rfl : k = ns.length := by omega
      go_wp2
      have hPZ : PubsTo ns 0 (List.replicate ns.length (-1 : Int)) := PubsTo.zero ns
      have hw0 : wr.ownsRow (w.heap.size + 1) 3 1 u3 ns.length ((List.replicate ns.length (-1 : Int)).map (Value.int .i64)) := hown
      have HW : Hid _ := hw0
      clear hw0 hown
      generalize wr = wp at *
      go_loopw [5] (fun i wr => ∃ (k : Nat) (ps : List Int), k ≤ ns.length ∧ i = .int .i64 (k : Int) ∧ Hid (PubsTo ns k ps) ∧ wr.ownsRow (w.heap.size + 1) 3 1 u3 ns.length (ps.map (Value.int .i64)) ∧ Below w.heap.size w wr ∧ wr.cell? ⟨w.heap.size, 0, none⟩ = some (.slice a ns.length ca) ∧ w.heap.size < wr.heap.size)
        (fun i _ => ns.length - (intOf i).toNat)
      case atStart => exact ⟨0, _, Nat.zero_le _, rfl, hPZ, HW.out, hbel, hcA, hsz⟩
      case round =>
        clear HW hPZ hbel hcA hsz hlt
        obtain ⟨k, ps, hk, rfl, HP, hown, hbel, hcA, hsz⟩ := hrel
        by_cases hlt : k < ns.length
        · have hi0 : (0 : Int) ≤ (k : Int) := by omega
          have hi1 : (k : Int) < (ns.length : Int) := by omega
          obtain ⟨bA, oA, rfl⟩ := HR.out.addr hlt
          obtain ⟨hbA, c0, c1, c2, c3⟩ := HR.out.at hbel hlt
          have hnk := HN.out k hlt
          by_cases h6 : (ns.getD k Nd.zero).k = 6
          · have HP2 : Hid _ := HP.out.put h6
            obtain ⟨g, cap, rfl, hg, hgl, hcells⟩ := own_ints hown (by omega)
            have hnt := nodeB_true hnk
            clear hnk
            have hne : g ≠ bA := by omega
            generalize ns.getD k Nd.zero = x at c0 c1 c2 c3 h6 HP2 hnt
            obtain ⟨xk, xn, xa, xb⟩ := x
            simp only at c0 c1 c2 c3 h6 HP2
            subst h6
            have h1 : 0 ≤ xa ∧ xa < (k : Int) := by rcases hnt with h | h | h <;> simp only at h <;> omega
            obtain ⟨i, rfl⟩ := Int.eq_ofNat_of_zero_le h1.1
            have hj0 : (0 : Int) ≤ (i : Int) := by omega
            have hj1 : (i : Int) < (ns.length : Int) := by omega
            have cI := hcells i (by omega)
            have fI := World.ownsRow.frozenAt hown i
            have HS : Hid ((wr.setCell ⟨g, i, none⟩ (.int .i64 (k : Int))).ownsRow (w.heap.size + 1) 3 1 (.slice (some ⟨g, 0, none⟩) ns.length cap) ns.length ((ps.set i (k : Int)).map (Value.int .i64))) := by show World.ownsRow _ _ _ _ _ _ _; rw [List.map_set]; exact (World.ownsRow.stored hown i (.int .i64 (k : Int))).1
            have HB : Hid (Below w.heap.size w (wr.setCell ⟨g, i, none⟩ (.int .i64 (k : Int)))) := hbel.setCell (by show w.heap.size ≤ g; omega) _
            have HC : Hid ((wr.setCell ⟨g, i, none⟩ (.int .i64 (k : Int))).cell? ⟨w.heap.size, 0, none⟩ = some (.slice (some ⟨bA, oA, none⟩) ns.length ca)) := by show _ = _; rw [World.cell?_of_block (w := wr) (Below.heap_setCell _ _ _ _ (by show w.heap.size ≠ g; omega))]; exact hcA
            clear hcells hnt hown hbel HP
            go_wp2
            go_roundw
            case rel => exact ⟨k + 1, _, by omega, by go_num, HP2, HS.out, HB.out, HC.out, by simpa using hsz⟩
            case measure => simp [intOf] <;> omega
          · have HP2 : Hid _ := HP.out.pass h6
            have hq : ((ns.getD k Nd.zero).k == 6) = false := beq_eq_false_iff_ne.2 h6
            clear hnk HP h6
            generalize ns.getD k Nd.zero = x at c0 c1 c2 c3 hq
            have HOW : Hid _ := hown
            clear hown
            go_wp2
            go_roundw
            case rel => exact ⟨k + 1, _, by omega, by go_num, HP2, HOW.out, hbel, hcA, hsz⟩
            case measure => simp [intOf] <;> omega
        · obtain rfl : k = ns.length := by omega
          have HOW : Hid (OwnInt w.heap.size wr u3 ps) := by show World.ownsRow _ _ _ _ _ _ _; rw [HP.out.1]; exact own_base hown (by omega)
          clear hown
          go_wp2
          go_ret
          exact ⟨_, ps, rfl, HP.out, HOW.out, hbel⟩
end Go.Proofs.Ytffnadnndmmliaa
