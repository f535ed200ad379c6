/- The contracts of chapter 5's l05Reach, Reach and Derives, the specification's. -/
import Derived.Test.YtffnadnndmmliaaPlainReach3
import Derived.Test.YtffnadnndmmliaaHeldQ
import Derived.WalkKit
import Derived.WalkLawsBesides
import Derived.WalkSpells
import Derived.OwnWalk
import Derived.Laws.OwnMore
import Derived.Laws.Rows
namespace Go.Proofs.Ytffnadnndmmliaa
open Go.RowKit
set_option linter.unusedVariables false
theorem infoBoolS : (Try.prog.info? 4).map (fun i => (i.zero, i.size, i.bytes)) = some (some (.bool false), 1, 1) := by kernel_rfl
theorem made_bools : ∀ n : Nat, (madeCells (Value.bool false).cells (n * 1)).toList = (List.replicate n false).map Value.bool := by
  intro n
  have h : ∀ m : Nat, List.map (fun x => [Value.bool false][x % 1]?.getD default) (List.range m) = List.replicate m (Value.bool false) := fun m => by
    apply List.ext_getElem (by simp)
    intro i h1 h2
    simp [Nat.mod_one]
  simpa [madeCells, Value.cells] using h n
theorem World.ownsRow_rowB {B g n : Nat} {w : World} {bs : List Bool} (h : BoolsAt B g n w bs) (hl : bs.length = n) : RowB w.heap.size w (some ⟨g, 0, none⟩) bs :=
  .inr ⟨g, 0, rfl, (World.ownsRow.lt h _ (by simp [Value.ownBlock])).2, fun j hj => by rw [Nat.zero_add]; exact BoolsAt.cell h (by omega)⟩
set_option maxHeartbeats 6400000 in
set_option maxRecDepth 20000 in
theorem reachIn_any (ca ck : Nat) (a kb : Option Addr) (ns : List Nd) (xs : List Int) (w : World) (hl : ns.length ≤ 3000) (ha : allFrom ns ns 0 = true) (hxl : xs.length ≤ 1048576) (hr : RowN w.heap.size w a ns) (hk : RowI w.heap.size w kb xs) :
    Calls Try.prog 165 #[.agg #[.slice a ns.length ca], .slice kb xs.length ck] w fun e w' => ∃ v bs, e = .returned v ∧ IsReach ns xs bs ∧ OwnBool w.heap.size w' v bs ∧ Below w.heap.size w w' := by
  obtain ⟨i0, hi, hz0, hz1, hz2⟩ := info_parts infoBoolS
  have HR : Hid (RowN w.heap.size w a ns) := hr
  have HK : Hid (RowI w.heap.size w kb xs) := hk
  have HA : Hid (allFrom ns ns 0 = true) := ha
  clear hr ha hk
  go_enter Try.func165, Try.ntmps165
  go_wp2_with (at_make; refine wpList_make_full _ rfl _ _ 125 rfl (w.heap.size + 1) 4 i0 (.bool false) 1 Try.underlying125 hi hz0 hz1 .i64 .i64 _ _ ns.length rfl rfl (by omega) (by omega) (by rw [hz2]; omega) (by unfold maxLen; omega) (by simp) ?_; intro w2 hown2 hgrow2)
  have hB2 : Below w.heap.size w w2 := ((Below.refl _ _).alloc (Nat.le_refl _) _).grown hgrow2 (by simp) (by simp)
  have hA2 : w2.cell? ⟨w.heap.size, 0, none⟩ = some (.slice a ns.length ca) := by
    have := hgrow2.block w.heap.size (by simp) (by simp)
    rw [heap_alloc_new] at this
    rw [cell_of_row w2 _ 0 _ _ _ this]; rfl
  have hO2 : BoolsAt (w.heap.size + 1) (w.heap.size + 1) ns.length w2 (List.replicate ns.length false) := by rw [made_bools] at hown2; unfold BoolsAt; simpa using hown2
  have HS2 : Hid (RcS w a none ca 0 ns [] (List.replicate ns.length false) w2) := ⟨hB2, hA2, hO2, .inl rfl, fun b off e => by simp at e⟩
  have HT2 : Hid (Start ns xs 0 (List.replicate ns.length false)) := Start.zero ns xs
  clear hgrow2 hown2 hB2 hA2 hO2
  go_loopw [6] (fun iv wr => ∃ (m : Nat) (bs : List Bool), m ≤ xs.length ∧ iv = .int .i64 (m : Int) ∧ Hid (Start ns xs m bs) ∧ Hid (RcS w a none ca 0 ns [] bs wr))
    (fun iv _ => xs.length - (intOf iv).toNat)
  case atStart => exact ⟨0, _, Nat.zero_le _, rfl, HT2, HS2⟩
  case round =>
    obtain ⟨m, bs, hm, rfl, HT, HS⟩ := hrel
    clear HT2 HS2
    by_cases hlt : m < xs.length
    · have hi0 : (0 : Int) ≤ (m : Int) := by omega
      have hi1 : (m : Int) < (xs.length : Int) := by omega
      obtain ⟨bK, oK, rfl⟩ := HK.out.addr hlt
      have cK := (HK.out.at HS.out.bel hlt).2
      cases hx : inB (xs.getD m 0) 0 ((ns.length : Int) - 1) with
      | false =>
        have HT3 : Hid _ := HT.out.pass hx
        generalize xs.getD m 0 = y at cK hx
        have HX : Hid _ := hx
        clear hx HT
        go_wp2_with (go_at_call 99; refine (specIn_any _ _ _ _).mono ?_; rintro e w' ⟨rfl, rfl⟩; rw [HX.out])
        go_roundw
        case rel => exact ⟨m + 1, _, by omega, by go_num, HT3, HS⟩
        case measure => simp [intOf] <;> omega
      | true =>
        obtain ⟨j, hj, hj0, hj1⟩ : ∃ j : Nat, xs.getD m 0 = (j : Int) ∧ (0 : Int) ≤ (j : Int) ∧ (j : Int) < (ns.length : Int) := by
          have := inB_true hx
          exact ⟨(xs.getD m 0).toNat, by omega, by omega, by omega⟩
        have HT3 : Hid _ := HT.out.put hlt (show j < ns.length by omega) hj
        rw [hj] at cK hx
        have cB := BoolsAt.cell HS.out.has (show j < ns.length by omega)
        have fB := World.ownsRow.frozenAt HS.out.has j
        have HS3 : Hid _ := RcS.grow HS.out (gb_set (gb_refl _ _) j (.bool true)) (BoolsAt.set HS.out.has j)
        have HX : Hid _ := hx
        generalize bs.getD j false = t at cB
        clear hx HT HS hj
        go_wp2_with (go_at_call 99; refine (specIn_any _ _ _ _).mono ?_; rintro e w' ⟨rfl, rfl⟩; rw [HX.out])
        go_roundw
        case rel => exact ⟨m + 1, _, by omega, by go_num, HT3, HS3⟩
        case measure => simp [intOf] <;> omega
    · obtain rfl : m = xs.length := by omega
      have hcA := HS.out.cA
      go_wp2_with fail
      refine (pubs_any ca a ns _ hl (fun i hi => (all_at HA.out hi).1) (HR.out.grown (HS.out.bel))).mono ?_
      rintro e w3 ⟨v, ps, rfl, hP, hO, hb3⟩
      obtain ⟨pb, cp, rfl, -, hRI⟩ := hO.row
      have HS3 : Hid (RcS w a pb ca cp ns ps bs w3) := by
        have h3 := RcS.next HS.out hb3
        have hz := HS.out.size
        refine ⟨h3.bel, h3.cA, h3.has, hRI, fun b off e => ?_⟩
        subst e
        have := (World.ownsRow.lt hO b (by simp [Value.ownBlock])).1
        omega
      have HP : Hid (PubsTo ns ns.length ps) := hP
      have hpl : ps.length = ns.length := hP.1
      rw [hpl]
      have HT3 : Hid (Head ns xs true bs) := ⟨HT.out, fun e => by simp at e⟩
      clear hP hO hRI hb3 HS HT hcA hlt hm
      go_wp2
      go_loopw [8] (fun sv wr => ∃ (sm : Bool) (bs : List Bool), sv = .bool sm ∧ Hid (Head ns xs sm bs) ∧ Hid (RcS w a pb ca cp ns ps bs wr))
        (fun sv wr => wants sv wr (w.heap.size + 1) ns.length)
      case atStart => exact ⟨true, _, rfl, HT3, HS3⟩
      case round =>
        clear HT3 HS3
        obtain ⟨sm, bs0, rfl, HT, HS⟩ := hrel
        cases sm
        · have HE : Hid (IsReach ns xs bs0) := Head.reach HA.out HT.out
          have HO : Hid (OwnBool w.heap.size wr (.slice (some ⟨w.heap.size + 1, 0, none⟩) ns.length ns.length) bs0) := by show World.ownsRow _ _ _ _ _ _ _; rw [HE.out.len]; exact own_base HS.out.has (by omega)
          have HB : Hid (Below w.heap.size w wr) := HS.out.bel
          clear HT HS
          go_wp2
          go_ret
          exact ⟨_, bs0, rfl, HE.out, HO.out, HB.out⟩
        · have HT1 : Hid (Pass1 ns xs bs0 0 false bs0) := Pass1.zero HT.out.start
          have H0 : Hid (BoolsAt (w.heap.size + 1) (w.heap.size + 1) ns.length wr bs0) := HS.out.has
          clear HT
          generalize hwr : wr = wo at H0 HS
          go_wp2
          go_loopw [8, 9] (fun sv iv wr => ∃ (k : Nat) (sm : Bool) (bs : List Bool), k ≤ ns.length ∧ sv = .bool sm ∧ iv = .int .i64 (k : Int) ∧ Hid (Pass1 ns xs bs0 k sm bs) ∧ Hid (RcS w a pb ca cp ns ps bs wr))
            (fun _ iv _ => ns.length - (intOf iv).toNat)
          case atStart => exact ⟨0, false, bs0, Nat.zero_le _, rfl, rfl, HT1, hwr ▸ HS⟩
          case round =>
            clear HT1 HS hwr
            obtain ⟨k, sm, bs, hk, rfl, rfl, HT, HS⟩ := hrel
            by_cases hlt : k < ns.length
            · have hi0 : (0 : Int) ≤ (k : Int) := by omega
              have hi1 : (k : Int) < (ns.length : Int) := by omega
              have cB := BoolsAt.cell HS.out.has hlt
              cases ht : bs.getD k false with
              | true =>
                have HT3 : Hid _ := HT.out.skip (.inl ht)
                rw [ht] at cB
                clear ht HT
                go_wp2
                go_roundw
                case rel => exact ⟨k + 1, sm, bs, by omega, rfl, by go_num, HT3, HS⟩
                case measure => simp [intOf] <;> omega
              | false =>
                rw [ht] at cB
                have hcA := HS.out.cA
                have HM : Hid _ := made_any a (some ⟨w.heap.size + 1, 0, none⟩) pb ca ns.length cp ns bs ps k wr hl HT.out.sound.1 hpl hlt (all_at HA.out hlt).1 HP.out.2 (HR.out.grown HS.out.bel) (World.ownsRow_rowB HS.out.has HT.out.sound.1) HS.out.pubs
                cases hm : madeB ns bs (ns.getD k Nd.zero) with
                | false =>
                  have HT3 : Hid _ := HT.out.skip (.inr hm)
                  have HQ : Hid _ := hm
                  clear hm ht HT
                  go_wp2_with fail
                  refine Calls.mono HM.out ?_
                  rintro e w4 ⟨rfl, hb4⟩
                  rw [HQ.out]
                  have HS4 : Hid _ := RcS.next HS.out hb4
                  clear hb4 HS HM hcA cB
                  go_wp2
                  go_roundw
                  case rel => exact ⟨k + 1, sm, bs, by omega, rfl, by go_num, HT3, HS4⟩
                  case measure => simp [intOf] <;> omega
                | true =>
                  have HT3 : Hid _ := HT.out.put HA.out hlt ht hm
                  have HQ : Hid _ := hm
                  clear hm ht HT
                  go_wp2_with fail
                  refine Calls.mono HM.out ?_
                  rintro e w4 ⟨rfl, hb4⟩
                  rw [HQ.out]
                  have hS4 := RcS.next HS.out hb4
                  have cD := BoolsAt.cell hS4.has hlt
                  have fD := World.ownsRow.frozenAt hS4.has k
                  have HS5 : Hid _ := RcS.grow hS4 (gb_set (gb_refl _ _) k (.bool true)) (BoolsAt.set hS4.has k)
                  clear hb4 HS HM hcA cB hS4
                  generalize bs.getD k false = t at cD
                  go_wp2
                  go_roundw
                  case rel => exact ⟨k + 1, true, _, by omega, rfl, by go_num, HT3, HS5⟩
                  case measure => simp [intOf] <;> omega
            · obtain rfl : k = ns.length := by omega
              have HT1 : Hid (Pass2 ns xs bs0 ns.length sm bs) := Pass2.of HT.out
              clear HT
              generalize hwq : wr = wq at HS
              go_wp2
              go_loopw [8, 10] (fun sv iv wr => ∃ (m : Nat) (sm : Bool) (bs : List Bool), m ≤ ns.length ∧ sv = .bool sm ∧ iv = .int .i64 ((m : Int) - 1) ∧ Hid (Pass2 ns xs bs0 m sm bs) ∧ Hid (RcS w a pb ca cp ns ps bs wr))
                (fun _ iv _ => (intOf iv + 1).toNat)
              case atStart => exact ⟨ns.length, sm, bs, Nat.le_refl _, rfl, rfl, HT1, hwq ▸ HS⟩
              case round =>
                clear HT1 HS hwq hlt hk
                obtain ⟨m, sm, bs, hm, rfl, rfl, HT, HS⟩ := hrel
                rcases Nat.eq_zero_or_pos m with rfl | hpos
                · have HT3 : Hid (Head ns xs sm bs) := Head.of HT.out
                  have HW : Hid (wants (.bool sm) wr (w.heap.size + 1) ns.length < wants (.bool true) wo (w.heap.size + 1) ns.length) := wants_less H0.out HS.out.has HT.out.yes
                  clear HT
                  go_wp2
                  go_roundw
                  case rel => exact ⟨sm, bs, rfl, HT3, HS⟩
                  case measure => exact HW.out
                · obtain ⟨k, rfl⟩ : ∃ k, m = k + 1 := ⟨m - 1, by omega⟩
                  have hlt : k < ns.length := by omega
                  have hi0 : (0 : Int) ≤ (k : Int) := by omega
                  have hi1 : (k : Int) < (ns.length : Int) := by omega
                  have hee : (((k + 1 : Nat) : Int) - 1) = (k : Int) := by omega
                  rw [hee]
                  clear hee hpos
                  have cB := BoolsAt.cell HS.out.has hlt
                  cases ht : bs.getD k false with
                  | false =>
                    have HT3 : Hid _ := HT.out.skip (.inl ht)
                    rw [ht] at cB
                    clear ht HT
                    go_wp2
                    go_roundw
                    case rel => exact ⟨k, sm, bs, by omega, rfl, by go_num, HT3, HS⟩
                    case measure => simp [intOf] <;> omega
                  | true =>
                    rw [ht] at cB
                    have hcA := HS.out.cA
                    have HM : Hid _ := gives_any (w.heap.size + 1) (w.heap.size + 1) ca a ns bs k wr hl hlt (all_at HA.out hlt).1 ((HR.out.later HS.out.bel).wide (by omega)) (Nat.le_refl _) (by have := HS.out.size; omega) HS.out.has
                    cases hp : givesT bs (ns.getD k Nd.zero) with
                    | false =>
                      have HT3 : Hid _ := HT.out.skip (.inr hp)
                      have HQ : Hid (givesT bs (ns.getD k Nd.zero) = false ∧ givesB bs (ns.getD k Nd.zero) = bs) := ⟨hp, givesB_same hp⟩
                      clear hp ht HT
                      go_wp2_with fail
                      refine Calls.mono HM.out ?_
                      rintro e w4 ⟨rfl, ho4, hg4⟩
                      rw [HQ.out.1]
                      rw [HQ.out.2] at ho4
                      have HS4 : Hid _ := RcS.grow HS.out hg4 ho4
                      clear ho4 hg4 HS HM hcA cB
                      go_wp2
                      go_roundw
                      case rel => exact ⟨k, sm, bs, by omega, rfl, by go_num, HT3, HS4⟩
                      case measure => simp [intOf] <;> omega
                    | true =>
                      have HT3 : Hid _ := HT.out.put HA.out hlt ht hp
                      have HQ : Hid _ := hp
                      clear hp ht HT
                      go_wp2_with fail
                      refine Calls.mono HM.out ?_
                      rintro e w4 ⟨rfl, ho4, hg4⟩
                      rw [HQ.out]
                      have HS4 : Hid _ := RcS.grow HS.out hg4 ho4
                      clear ho4 hg4 HS HM hcA cB
                      go_wp2
                      go_roundw
                      case rel => exact ⟨k, true, _, by omega, rfl, by go_num, HT3, HS4⟩
                      case measure => simp [intOf] <;> omega

/-- Reach: of a right arena what can be had, of any other nothing. -/
def IsR (ns : List Nd) (xs : List Int) (bs : List Bool) : Prop := (arenaB ns = true ∧ IsReach ns xs bs) ∨ (arenaB ns = false ∧ bs = [])
theorem IsR.one {ns : List Nd} {xs : List Int} {bs cs : List Bool} (h : IsR ns xs bs) (h' : IsR ns xs cs) : bs = cs := by
  rcases h with ⟨h1, h2⟩ | ⟨h1, rfl⟩ <;> rcases h' with ⟨h3, h4⟩ | ⟨h3, rfl⟩
  · exact h2.one h4
  · rw [h1] at h3; simp at h3
  · rw [h1] at h3; simp at h3
  · rfl
theorem IsR.some (ns : List Nd) (xs : List Int) : ∃ bs, IsR ns xs bs := by
  cases hA : arenaB ns with
  | false => exact ⟨[], .inr ⟨hA, rfl⟩⟩
  | true =>
    classical
    refine ⟨(List.range ns.length).map (fun k => decide (Had ns (fun j => (j : Int) ∈ xs) k)), .inl ⟨hA, by simp, fun k hk => ?_⟩⟩
    rw [List.getD_eq_getElem?_getD, List.getElem?_map, List.getElem?_range hk]
    simp
theorem IsR.len {ns : List Nd} {xs : List Int} {bs : List Bool} (h : IsR ns xs bs) : bs.length ≤ 3000 := by
  rcases h with ⟨h1, h2⟩ | ⟨_, rfl⟩
  · have : ns.length ≤ 3000 := by unfold arenaB at h1; simp at h1; exact h1.1
    rw [h2.len]; exact this
  · simp
def derB (bs : List Bool) (k : Int) : Bool := inB k 0 ((bs.length : Int) - 1) && bs.getD k.toNat false
set_option maxHeartbeats 1600000 in
theorem specReach_any (ca ck : Nat) (a kb : Option Addr) (ns : List Nd) (xs : List Int) (w : World) (hl : ns.length ≤ 1048576) (hxl : xs.length ≤ 1048576) (hr : RowN w.heap.size w a ns) (hk : RowI w.heap.size w kb xs) :
    Calls Try.prog 121 #[.agg #[.slice a ns.length ca], .slice kb xs.length ck] w fun e w' => ∃ v bs, e = .returned v ∧ IsR ns xs bs ∧ OwnBool w.heap.size w' v bs ∧ Below w.heap.size w w' := by
  have HR : Hid (RowN w.heap.size w a ns) := hr
  have HK : Hid (RowI w.heap.size w kb xs) := hk
  clear hr hk
  cases hA : arenaB ns with
  | false =>
    have HA : Hid (arenaB ns = false) := hA
    clear hA
    go_enter Try.func121, Try.ntmps121
    go_wp2_with fail
    refine (specArena_any _ _ _ _ hl (HR.out.grown ((Below.refl _ _).alloc (Nat.le_refl _) _))).mono ?_
    rintro e w1 ⟨rfl, hb1⟩
    rw [HA.out]
    have HB : Hid (Below w.heap.size w w1) := ((Below.refl _ _).alloc (Nat.le_refl _) _).trans (hb1.mono (by simp))
    clear hb1
    go_wp2
    have HO := World.ownsRow_made w1 #[] 0 (base := w.heap.size) (e := 4) (size := 1) HB.out.size (by decide) rfl
    have HE : Hid (Below w.heap.size w (w1.alloc (.cells #[] 4))) := HB.out.alloc HB.out.size _
    go_ret
    exact ⟨_, [], rfl, .inr ⟨HA.out, rfl⟩, by unfold OwnBool; simpa using HO, HE.out⟩
  | true =>
    have hall : ns.length ≤ 3000 ∧ allFrom ns ns 0 = true := by unfold arenaB at hA; simpa using hA
    obtain ⟨h3, hall⟩ := hall
    have HA : Hid (arenaB ns = true ∧ allFrom ns ns 0 = true) := ⟨hA, hall⟩
    clear hA hall
    go_enter Try.func121, Try.ntmps121
    go_wp2_with fail
    refine (specArena_any _ _ _ _ hl (HR.out.grown ((Below.refl _ _).alloc (Nat.le_refl _) _))).mono ?_
    rintro e w1 ⟨rfl, hb1⟩
    rw [HA.out.1]
    have HB : Hid (Below w.heap.size w w1) := ((Below.refl _ _).alloc (Nat.le_refl _) _).trans (hb1.mono (by simp))
    have hcA : w1.cell? ⟨w.heap.size, 0, none⟩ = some (.slice a ns.length ca) := (hb1.cell (p := ⟨w.heap.size, 0, none⟩) (by simp)).trans (by rw [cell_of_row _ w.heap.size 0 _ _ _ (heap_alloc_new w _)]; rfl)
    clear hb1
    go_wp2_with fail
    refine (reachIn_any ca ck a kb ns xs w1 h3 HA.out.2 hxl (HR.out.grown HB.out) (HK.out.grown HB.out)).mono ?_
    rintro e w2 ⟨v, bs, rfl, hR, hO, hb2⟩
    have HE : Hid (IsR ns xs bs ∧ OwnBool w.heap.size w2 v bs ∧ Below w.heap.size w w2) := ⟨.inl ⟨HA.out.1, hR⟩, hO.base HB.out.size, HB.out.trans (hb2.mono HB.out.size)⟩
    clear hR hO hb2 HA HB hcA
    go_wp2
    go_ret
    exact ⟨_, bs, rfl, HE.out⟩
set_option maxHeartbeats 1600000 in
theorem specDerives_any (ca ck : Nat) (a kb : Option Addr) (ns : List Nd) (xs : List Int) (k : Int) (w : World) (hl : ns.length ≤ 1048576) (hxl : xs.length ≤ 1048576) (hr : RowN w.heap.size w a ns) (hk : RowI w.heap.size w kb xs) :
    Calls Try.prog 47 #[.agg #[.slice a ns.length ca], .slice kb xs.length ck, .int .i64 k] w fun e w' => ∃ bs, IsR ns xs bs ∧ e = .returned (.bool (derB bs k)) ∧ Below w.heap.size w w' := by
  have HR : Hid (RowN w.heap.size w a ns) := hr
  have HK : Hid (RowI w.heap.size w kb xs) := hk
  clear hr hk
  go_enter Try.func47, Try.ntmps47
  go_wp2_with fail
  refine (specReach_any ca ck a kb ns xs _ hl hxl (HR.out.grown ((Below.refl _ _).alloc (Nat.le_refl _) _)) (HK.out.grown ((Below.refl _ _).alloc (Nat.le_refl _) _))).mono ?_
  rintro e w2 ⟨v, bs, rfl, hR, hO, hb2⟩
  have HI : Hid (IsR ns xs bs) := hR
  have HB : Hid (Below w.heap.size w w2) := ((Below.refl _ _).alloc (Nat.le_refl _) _).trans (hb2.mono (by simp))
  have hbl : bs.length ≤ 3000 := by
    rcases hR with ⟨h1, h2⟩ | ⟨_, rfl⟩
    · have : ns.length ≤ 3000 := by unfold arenaB at h1; simp at h1; exact h1.1
      rw [h2.len]; exact this
    · simp
  obtain ⟨hb, ch, rfl, -, hRB⟩ := hO.row
  have HRB : Hid (RowB w2.heap.size w2 hb bs) := hRB
  clear hO hb2 hR hRB
  cases hi : inB k 0 ((bs.length : Int) - 1) with
  | false =>
    have HD : Hid (derB bs k = false) := by show _ = _; unfold derB; rw [hi]; rfl
    have HQ : Hid _ := hi
    clear hi
    go_wp2_with (go_at_call 99; refine (specIn_any _ _ _ _).mono ?_; rintro e w' ⟨rfl, rfl⟩; rw [HQ.out])
    go_ret
    exact ⟨bs, HI.out, by rw [HD.out]; rfl, HB.out⟩
  | true =>
    have hb3 := inB_true hi
    obtain ⟨j, rfl⟩ := Int.eq_ofNat_of_zero_le hb3.1
    have hj : j < bs.length := by omega
    have hj0 : (0 : Int) ≤ (j : Int) := by omega
    have hj1 : (j : Int) < (bs.length : Int) := by omega
    obtain ⟨bB, oB, rfl⟩ := HRB.out.addr hj
    have cB := (HRB.out.at (Below.refl _ _) hj).2
    have HD : Hid (derB bs (j : Int) = bs.getD j false) := by show _ = _; unfold derB; rw [hi]; simp
    generalize bs.getD j false = t at cB HD
    have HQ : Hid _ := hi
    clear hi hb3 HRB
    go_wp2_with (go_at_call 99; refine (specIn_any _ _ _ _).mono ?_; rintro e w' ⟨rfl, rfl⟩; rw [HQ.out])
    go_ret
    exact ⟨bs, HI.out, by rw [HD.out]; rfl, HB.out⟩
end Go.Proofs.Ytffnadnndmmliaa
