/- The contract of chapter 5's Reach, the program's, given the one of reacherOf. -/
import Derived.Test.YtcmmbehnihelcaaReachG
import Derived.Test.YtcmmbehnihelcaaSpecReach5
import Derived.Test.YtcmmbehnihelcaaImplArena
import Derived.WalkKit
import Derived.WalkLawsBesides
import Derived.WalkSpells
import Derived.Laws.Rows
import Derived.Deep.LoopGhost
namespace Go.Proofs.Ytcmmbehnihelcaa
open Go.RowKit
set_option linter.unusedVariables false
/-- What reacherOf gives. -/
def Rof (ns : List Nd) (a : Option Addr) (ca : Nat) (w : World) (v : Value) (w' : World) : Prop := ∃ g h ub pb, v = .pointer (some ⟨g, 0, none⟩) ∧ Fx w' g h ub pb a ns ∧ Sm w' g h ns.length ca ub pb a (List.replicate ns.length false) [] w' ∧ w.heap.size ≤ g ∧ w.heap.size ≤ h ∧ Below w.heap.size w w'
def RofGoal : Prop := ∀ (ca : Nat) (a : Option Addr) (ns : List Nd) (w : World), ns.length ≤ 3000 → allFrom ns ns 0 = true → RowN w.heap.size w a ns → Calls Try.prog 49 #[.slice a ns.length ca] w fun e w' => ∃ v, e = .returned v ∧ Rof ns a ca w v w'
theorem Pls.zero (n : Nat) : Pls n (List.replicate n false) [] := ⟨fun k => by
  rw [List.getD_eq_getElem?_getD, List.getElem?_replicate]
  split <;> simp, by rw [cnt_false]; simp⟩
theorem own_up {w : World} {base base' e size n : Nat} {v : Value} {xs : List Value} (h : w.ownsRow base e size v n xs) (hb : ∀ g, v.ownBlock = some g → base' ≤ g) : w.ownsRow base' e size v n xs := by
  refine ⟨h.1, ?_⟩
  rcases h.2 with h0 | ⟨g, cap, cur, e, hg, rest⟩
  · exact .inl h0
  · exact .inr ⟨g, cap, cur, e, hb g (by rw [e]; rfl), rest⟩
/-- What stands at the heads of Reach's loops. -/
structure RSt (w w1 : World) (g h ca ub pb : Nat) (a : Option Addr) (ns : List Nd) (L : List (Nat × Nat)) (bs : List Bool) (wr : World) : Prop where
  sm : Sm w1 g h ns.length ca ub pb a bs L wr
  pl : Pls ns.length bs L
  bel : Below w.heap.size w wr
  cA : wr.cell? ⟨w.heap.size, 0, none⟩ = some (.slice a ns.length ca)
theorem RSt.mk' {w w1 : World} {g h ca ub pb : Nat} {a : Option Addr} {ns : List Nd} {L : List (Nat × Nat)} {bs : List Bool} {wr : World} (s : Sm w1 g h ns.length ca ub pb a bs L wr) (p : Pls ns.length bs L) (hb : Below w.heap.size w w1) (h1 : w.heap.size < g) (h2 : w.heap.size < h) (hs : w.heap.size < w1.heap.size) (hc : w1.cell? ⟨w.heap.size, 0, none⟩ = some (.slice a ns.length ca)) : RSt w w1 g h ca ub pb a ns L bs wr :=
  ⟨s, p, hb.trans (s.below (by omega) (by omega) (by omega)), (s.cell1 ⟨by omega, by omega, hs⟩ 0).trans hc⟩
theorem pre_getD {L L' : List (Nat × Nat)} (h : L <+: L') {i : Nat} (hi : i < L.length) : L'.getD i (0, 0) = L.getD i (0, 0) ∧ i < L'.length := by
  obtain ⟨T, rfl⟩ := h
  refine ⟨?_, by simp; omega⟩
  rw [List.getD_eq_getElem?_getD, List.getElem?_append_left hi, ← List.getD_eq_getElem?_getD]
theorem snd_getD (L : List (Nat × Nat)) (i : Nat) : (L.map Prod.snd).getD i 0 = (L.getD i (0, 0)).2 := by
  rw [List.getD_eq_getElem?_getD, List.getElem?_map, List.getD_eq_getElem?_getD]
  cases L[i]? <;> rfl
theorem Pls.lt {n : Nat} {bs : List Bool} {L : List (Nat × Nat)} (h : Pls n bs L) (hb : bs.length = n) {i : Nat} (hi : i < L.length) : (L.getD i (0, 0)).2 < n := by
  have hm : (L.getD i (0, 0)).2 ∈ L.map Prod.snd := List.mem_map.2 ⟨L.getD i (0, 0), by rw [List.getD_eq_getElem?_getD, List.getElem?_eq_getElem hi]; exact List.getElem_mem hi, rfl⟩
  have := (h.1 _).1 hm
  rcases Nat.lt_or_ge (L.getD i (0, 0)).2 n with e | e
  · exact e
  · rw [List.getD_eq_getElem?_getD (l := bs), List.getElem?_eq_none (by omega)] at this; simp at this
set_option maxHeartbeats 6400000 in
set_option maxRecDepth 20000 in
theorem implReach_of (HRO : RofGoal) (ca ck : Nat) (a kb : Option Addr) (ns : List Nd) (xs : List Int) (w : World) (hl : ns.length ≤ 1048576) (hxl : xs.length ≤ 1048576) (hf : ∀ y ∈ ns, y.Fits) (hxf : ∀ x ∈ xs, -9223372036854775808 ≤ x ∧ x ≤ 9223372036854775807) (hr : RowN w.heap.size w a ns) (hk : RowI w.heap.size w kb xs) :
    Calls Try.prog 11 #[.agg #[.slice a ns.length ca], .slice kb xs.length ck] w fun e w' => ∃ v bs, e = .returned v ∧ IsR ns xs bs ∧ OwnBool w.heap.size w' v bs ∧ Below w.heap.size w w' := by
  have HR : Hid (RowN w.heap.size w a ns) := hr
  have HK : Hid (RowI w.heap.size w kb xs) := hk
  have HF : Hid (∀ y ∈ ns, y.Fits) := hf
  have HG : Hid RofGoal := HRO
  clear hr hk hf hxf HRO
  have hb0 : Below w.heap.size w (w.alloc (.cells #[.slice a ns.length ca] 26)) := (Below.refl _ _).alloc (Nat.le_refl _) _
  have HB0 : Hid _ := hb0
  clear hb0
  cases hA : arenaB ns with
  | false =>
    have HA : Hid (arenaB ns = false) := hA
    clear hA
    go_enter Try.func11, Try.ntmps11
    go_wp2_with fail
    refine (implArena_any _ _ _ _ hl HF.out (HR.out.grown HB0.out)).mono ?_
    rintro e w1 ⟨rfl, hb1⟩
    rw [HA.out]
    have HB : Hid (Below w.heap.size w w1) := HB0.out.trans (hb1.mono (by simp))
    clear hb1
    go_wp2
    go_ret
    exact ⟨_, [], rfl, .inr ⟨HA.out, rfl⟩, ⟨rfl, .inl ⟨rfl, rfl⟩⟩, HB.out⟩
  | true =>
    have hall : ns.length ≤ 3000 ∧ allFrom ns ns 0 = true := by unfold arenaB at hA; simpa using hA
    obtain ⟨h3, hall⟩ := hall
    have HA : Hid (arenaB ns = true ∧ allFrom ns ns 0 = true) := ⟨hA, hall⟩
    clear hA hall
    go_enter Try.func11, Try.ntmps11
    go_wp2_with fail
    refine (implArena_any _ _ _ _ hl HF.out (HR.out.grown HB0.out)).mono ?_
    rintro e w0 ⟨rfl, hb1⟩
    rw [HA.out.1]
    have HB : Hid (Below w.heap.size w w0) := HB0.out.trans (hb1.mono (by simp))
    have hcA : w0.cell? ⟨w.heap.size, 0, none⟩ = some (.slice a ns.length ca) := (hb1.cell (p := ⟨w.heap.size, 0, none⟩) (by simp)).trans (by rw [cell_of_row _ w.heap.size 0 _ _ _ (heap_alloc_new w _)]; rfl)
    have hsz0 : w.heap.size < w0.heap.size := by have := hb1.size; simp at this; omega
    clear hb1 HB0
    go_wp2_with fail
    refine (HG.out ca a ns w0 h3 HA.out.2 (HR.out.grown HB.out)).mono ?_
    rintro e w1 ⟨v, rfl, g, h, ub, pb, rfl, hfx, hsm, hg, hh, hbw⟩
    have HFX : Hid (Fx w1 g h ub pb a ns) := hfx
    have HMK : Hid (∀ L bs wr, Sm w1 g h ns.length ca ub pb a bs L wr → Pls ns.length bs L → RSt w w1 g h ca ub pb a ns L bs wr) := fun L bs wr s p =>
      RSt.mk' s p (HB.out.trans (hbw.mono (by omega))) (by omega) (by omega) (by have := hbw.size; omega) ((hbw.cell (p := ⟨w.heap.size, 0, none⟩) hsz0).trans hcA)
    have hgh : Hid (w.heap.size ≤ h) := by show _ ≤ _; omega
    have HZ : Hid (RSt w w1 g h ca ub pb a ns [] (List.replicate ns.length false) w1) := HMK.out _ _ _ hsm (Pls.zero _)
    have HT0 : Hid (Start ns xs 0 (List.replicate ns.length false)) := Start.zero ns xs
    clear hfx hsm hg hh hbw hcA hsz0 HG HF
    go_wp2
    go_loopw [18] (fun iv wr => ∃ (m : Nat) (bs : List Bool) (L : List (Nat × Nat)), m ≤ xs.length ∧ iv = .int .i64 (m : Int) ∧ Hid (Start ns xs m bs) ∧ Hid (RSt w w1 g h ca ub pb a ns L bs wr))
      (fun iv _ => xs.length - (intOf iv).toNat)
    case atStart => exact ⟨0, _, _, Nat.zero_le _, rfl, HT0, HZ⟩
    case round =>
      clear HZ HT0
      obtain ⟨m, bs, L, hm, rfl, HT, HS⟩ := hrel
      have cA := HS.out.cA
      by_cases hlt : m < xs.length
      · have hi0 : (0 : Int) ≤ (m : Int) := by omega
        have hi1 : (m : Int) < (xs.length : Int) := by omega
        obtain ⟨bK, oK, rfl⟩ := HK.out.addr hlt
        have cK := (HK.out.at HS.out.bel hlt).2
        cases hx : inB (xs.getD m 0) 0 ((ns.length : Int) - 1) with
        | false =>
          have HT3 : Hid _ := HT.out.pass hx
          generalize xs.getD m 0 = y at cK hx
          have HX : Hid _ := hx
          clear hx HT
          go_wp2_with (go_at_call 50; refine (ahead_any _ _ _).mono ?_; rintro e w' ⟨rfl, rfl⟩; rw [HX.out])
          go_roundw
          case rel => exact ⟨m + 1, _, _, by omega, by go_num, HT3, HS⟩
          case measure => simp [intOf] <;> omega
        | true =>
          obtain ⟨j, hj, hj0, hj1⟩ : ∃ j : Nat, xs.getD m 0 = (j : Int) ∧ (0 : Int) ≤ (j : Int) ∧ (j : Int) < (ns.length : Int) := by
            have := inB_true hx
            exact ⟨(xs.getD m 0).toNat, by omega, by omega, by omega⟩
          have HT3 : Hid _ := HT.out.put hlt (show j < ns.length by omega) hj
          rw [hj] at cK hx
          have HX : Hid _ := hx
          have HC : Hid _ := comeC_any w1 g h ns.length ca ub pb a bs L j wr h3 (by omega) HS.out.sm HS.out.pl
          clear hx HT HS hj
          go_wp2_with (go_at_call 50; refine (ahead_any _ _ _).mono ?_; rintro e w' ⟨rfl, rfl⟩; rw [HX.out])
          refine Calls.mono HC.out ?_
          rintro e w3 ⟨rfl, L3, s3, p3, k3⟩
          have HS3 : Hid _ := HMK.out _ _ _ s3 p3
          clear s3 p3 k3 HC
          go_wp2
          go_roundw
          case rel => exact ⟨m + 1, _, L3, by omega, by go_num, HT3, HS3⟩
          case measure => simp [intOf] <;> omega
      · obtain rfl : m = xs.length := by omega
        have HT1 : Hid (Look1 ns xs 0 bs) := Look1.zero HT.out
        clear HT hlt hm
        go_wp2
        clear cA
        go_loopw [34] (fun iv wr => ∃ (m : Nat) (bs : List Bool) (L : List (Nat × Nat)), m ≤ ns.length ∧ iv = .int .i64 (m : Int) ∧ Hid (Look1 ns xs m bs) ∧ Hid (RSt w w1 g h ca ub pb a ns L bs wr))
          (fun iv _ => ns.length - (intOf iv).toNat)
        case atStart => exact ⟨0, _, _, Nat.zero_le _, rfl, HT1, HS⟩
        case round =>
          clear HS HT1
          obtain ⟨m, bs, L, hm, rfl, HT, HS⟩ := hrel
          by_cases hlt : m < ns.length
          · have HT3 : Hid _ := HT.out.next HA.out.2 hlt
            have HC : Hid _ := look_one w1 g h ca ub pb a ns HFX.out bs L m wr hlt HS.out.sm HS.out.pl
            have hi1 : (m : Int) < (ns.length : Int) := by omega
            clear HT HS
            go_wp2_with fail
            refine Calls.mono HC.out ?_
            rintro e w3 ⟨rfl, L3, s3, p3, k3⟩
            have HS3 : Hid _ := HMK.out _ _ _ s3 p3
            clear s3 p3 k3 HC
            go_wp2
            go_roundw
            case rel => exact ⟨m + 1, _, L3, by omega, by go_num, HT3, HS3⟩
            case measure => simp [intOf] <;> omega
          · obtain rfl : m = ns.length := by omega
            have HT2 : Hid (Look2 ns xs (L.map Prod.snd) 0 bs) := Look2.zero _ HT.out
            have c4 := HS.out.sm.c4
            clear HT hlt hm
            generalize hpv : pt L 0 = pv at c4
            go_wp2
            clear c4
            go_loopg [9] ns.length (fun gk pv wr => ∃ (i : Nat) (bs : List Bool) (L : List (Nat × Nat)), i ≤ L.length ∧ gk = ns.length - i ∧ pv = pt L i ∧ Hid (Look2 ns xs (L.map Prod.snd) i bs) ∧ Hid (RSt w w1 g h ca ub pb a ns L bs wr))
            case atStart => exact ⟨0, bs, L, Nat.zero_le _, by omega, hpv.symm, HT2, HS⟩
            case round =>
              clear HT2 HS hpv
              obtain ⟨i, bs, L, hi, hgk, rfl, HT, HS⟩ := hrel
              by_cases hlt : i < L.length
              · rw [pt_some hlt]
                obtain ⟨m1, m2⟩ := HS.out.sm.nodes i hlt
                have n0 := (cell_of_row _ _ 0 _ _ _ m2).trans rfl
                have hle := HS.out.pl.le
                have HC : Hid _ := lookAround_any w1 g h ca ub pb a ns HFX.out bs L (L.getD i (0, 0)).2 wr (HS.out.pl.lt HS.out.sm.len hlt) HS.out.sm HS.out.pl
                have HT3 : Hid (∀ L3 : List (Nat × Nat), L <+: L3 → Look2 ns xs (L3.map Prod.snd) (i + 1) (around ns bs (L.getD i (0, 0)).2)) := fun L3 hp => by
                  have := HT.out.next HA.out.2 (L' := L3.map Prod.snd) (by simpa using hlt) (by obtain ⟨T, rfl⟩ := hp; rw [List.map_append]; exact List.prefix_append _ _) HS.out.pl.1
                  rwa [snd_getD] at this
                have HPG : Hid (∀ L3 : List (Nat × Nat), L <+: L3 → L3.getD i (0, 0) = L.getD i (0, 0) ∧ i < L3.length) := fun L3 hp => pre_getD hp hlt
                clear HT HS m2 m1
                generalize L.getD i (0, 0) = y at n0 HC HT3 HPG ⊢
                obtain ⟨yb, yk⟩ := y
                simp only at n0 HC HT3 ⊢
                go_wp2_with fail
                refine Calls.mono HC.out ?_
                rintro e w3 ⟨rfl, L3, s3, p3, k3⟩
                obtain ⟨e3, l3⟩ := HPG.out L3 k3.pre
                have m3 := (s3.nodes i l3).2
                rw [e3] at m3
                have n1 := (cell_of_row _ _ 1 _ _ _ m3).trans rfl
                have HT4 : Hid _ := HT3.out L3 k3.pre
                have HS3 : Hid _ := HMK.out _ _ _ s3 p3
                clear s3 p3 k3 HC HT3 HPG m3 e3 n0
                generalize hpn : pt L3 (i + 1) = pn at n1
                go_wp2
                go_roundg (ns.length - (i + 1))
                case rel => exact ⟨i + 1, _, L3, by omega, rfl, hpn.symm, HT4, HS3⟩
                case measure => omega
              · obtain rfl : i = L.length := by omega
                rw [pt_none (Nat.le_refl _)]
                have HE : Hid (IsReach ns xs bs) := Look2.reach HA.out.2 (by have := HT.out; rwa [← List.length_map (f := Prod.snd)] at this) HS.out.pl.1
                have c1 := HS.out.sm.c1
                have HO : Hid (OwnBool w.heap.size wr (.slice (some ⟨h, 0, none⟩) ns.length ns.length) bs) := by
                  show World.ownsRow _ _ _ _ _ _ _
                  rw [HE.out.len]
                  exact own_up HS.out.sm.had (fun g' e => by simp [Value.ownBlock] at e; subst e; exact hgh.out)
                have HBF : Hid (Below w.heap.size w wr) := HS.out.bel
                clear HT HS
                go_wp2
                go_ret
                exact ⟨_, bs, rfl, .inl ⟨HA.out.1, HE.out⟩, HO.out, HBF.out⟩
end Go.Proofs.Ytcmmbehnihelcaa
