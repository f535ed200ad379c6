/- For every code: a number is taken once, however they come; what is too far below is not taken; a window stays right; and drawn windows, right or not, answer as the specification's. No condition. -/
import Derived.Test.YtmbaipednonhpaaRows
import Derived.Test.YtmbaipednonhpaaWinL7
import Derived.Test.YtmbaipednonhpaaWinS7
import Derived.Test.YtmbaipednonhpaaImplW7
import Derived.Test.YtmbaipednonhpaaHeldQ
import Derived.WalkKit
import Derived.ProofKit
import Derived.OpenShut
import Derived.ShutString
import Derived.ChangeOld
import Derived.PlainAid
import Derived.OwnWalk
import Derived.Maps.AppendAt
namespace Go.Proofs.Ytmbaipednonhpaa
namespace fnWindows
open Go.ChangeShapes Go.WideShapes Go.ChangeAt Go.RowKit Go.PlainAid
open Go.ChangeMaps (open_string shut_string)
set_option linter.unusedVariables false

theorem own : ownKnob Try.prog.godebug = none := by kernel_rfl

theorem wf_of {x : Int} (h : -100000 ≤ x ∧ x ≤ 100000) : (Lit.int .i64 x).wf = true := by
  have h1 : IntKind.i64.min = -9223372036854775808 := rfl
  have h2 : IntKind.i64.max = 9223372036854775807 := rfl
  simp [Lit.wf, h1, h2]; omega
set_option maxHeartbeats 6400000 in
set_option maxRecDepth 20000 in
theorem walk (a0 : Option Addr) (len0 cap0 : Nat) (w : World) (hcode : len0 ≤ 1048576 → CodeIn w.heap.size w a0 len0) :
    Calls Try.prog 3 #[.slice a0 len0 cap0] w fun e w' => e = .returned (.bool true) ∧ Below w.heap.size w w' := by
  by_cases hbig : len0 ≤ 1048576
  · have HC : Hid (CodeIn w.heap.size w a0 len0) := hcode hbig
    have hd : decide ((1048576 : Int) < (len0 : Int)) = false := by simp; omega
    obtain ⟨i0, hi, hz0, hz1, hz2⟩ := info_parts infoIntS
    clear hcode hbig
    go_enter Try.func3, Try.ntmps3
    go_wp2_with fail
    refine (big_any _ _ _ _).mono ?_
    rintro e wz ⟨rfl, rfl⟩
    rw [hd]
    clear hd
    go_wp2_with fail
    refine (places_any _ _ _ _ HC.out).mono ?_
    rintro e w1 ⟨gp, cp, xs, rfl, hxl, hxb, hgp1, hgp2, hcl, hb1⟩
    have HP : Hid (∀ i, i < 12 → w1.cell? ⟨gp, i, none⟩ = some (.int .i64 ((xs.getD i 0 : Nat) : Int))) := hcl
    have HXB : Hid (∀ i, i < 12 → xs.getD i 0 < 10000) := fun i hi => hxb _ (by rw [List.getD_eq_getElem?_getD, List.getElem?_eq_getElem (by omega)]; exact List.getElem_mem _)
    have HB1 : Hid (Below w.heap.size w w1) := hb1
    clear hcl hxb hb1 hxl
    go_wp2_with fail
    refine (implNew_any _).mono ?_
    rintro e w2 ⟨rfl, hb2⟩
    have HB2 : Hid (Below w1.heap.size w1 w2) := hb2
    have hs2 := hb2.size
    have HS0 : Hid (WSt w2 (-1) 0 (.slice (some ⟨w2.heap.size + 1, 0, none⟩) 0 0) [] ((w2.alloc (.cells #[.int .i64 (-1), .int .i64 0] 27)).alloc (.cells #[] 3))) := by
      refine ⟨(heap_alloc_old _ _ (by simp)).trans (heap_alloc_new w2 _), ?_, ((Below.refl _ _).alloc (Nat.le_refl _) _).alloc (by simp) _⟩
      have := World.ownsRow_made (w2.alloc (.cells #[.int .i64 (-1), .int .i64 0] 27)) #[] 0 (base := w2.heap.size + 1) (e := 3) (size := 1) (by simp) (by decide) rfl
      simpa using this
    clear hb2
    go_wp2
    go_loopw [5, 6] (fun v iv wr => ∃ (m : Nat) (t s : Int) (zs : List Int) (av : Option Addr) (cv : Nat), m ≤ 12 ∧ v = .slice av zs.length cv ∧ iv = .int .i64 (m : Int) ∧ Hid (WSt w2 t s v zs wr) ∧ Hid (winB t s = true ∧ (∀ z ∈ zs, (0 ≤ z ∧ z ≤ 9999) ∧ freshB t s z = false) ∧ zs.length ≤ m ∧ (m = 0 → t = -1 ∧ s = 0) ∧ (0 < m → 0 < zs.length)))
      (fun _ iv _ => 12 - (intOf iv).toNat)
    case atStart => exact ⟨0, -1, 0, [], _, _, by omega, rfl, rfl, HS0, ⟨by decide, by simp, by simp, fun _ => ⟨rfl, rfl⟩, fun h => absurd h (by omega)⟩⟩
    case round =>
      clear HS0
      obtain ⟨m, t, s, zs, av, cv, hm, rfl, rfl, HS, HI⟩ := hrel
      by_cases hlt : m < 12
      · have hlt' : (m : Int) < 12 := by omega
        have hm0 : (0 : Int) ≤ (m : Int) := by omega
        have hcp : wr.cell? ⟨gp, m, none⟩ = some (.int .i64 ((xs.getD m 0 : Nat) : Int)) := (HS.out.below.cell (p := ⟨gp, m, none⟩) (show gp < w2.heap.size by omega)).trans ((HB2.out.cell (p := ⟨gp, m, none⟩) hgp2).trans (HP.out m hlt))
        have hxb := HXB.out m hlt
        generalize xs.getD m 0 = p at hcp hxb
        obtain ⟨q, hq, hqe⟩ : ∃ q : Nat, q < 40 ∧ (p : Int) % 40 = (q : Int) := ⟨p % 40, by omega, by omega⟩
        have hp0 : (0 : Int) ≤ (p : Int) := by omega
        have hq0 : (0 : Int) ≤ (q : Int) := by omega
        have hr := winB_range HI.out.1
        have e0 := HS.out.c0
        have e1 := HS.out.c1
        have HN : Hid (∀ wz, Calls Try.prog 11 #[.agg #[.int .i64 t, .int .i64 s], .int .i64 (q : Int)] wz fun e w' => e = .returned (.tuple #[.agg #[.int .i64 (notedT t s q), .int .i64 (notedV t s q)], .bool (freshB t s q)]) ∧ Below wz.heap.size wz w') := fun wz => implNoted_any t s q wz (wf_of (by omega)) (wf_of (by omega)) (wf_of (by omega))
        have HFR : Hid (∀ wz, Calls Try.prog 12 #[.agg #[.int .i64 t, .int .i64 s], .int .i64 (q : Int)] wz fun e w' => e = .returned (.bool (freshB t s q)) ∧ Below wz.heap.size wz w') := fun wz => implFresh_any t s q wz (wf_of (by omega)) (wf_of (by omega)) (wf_of (by omega))
        clear hr
        cases hf : freshB t s q with
        | true =>
          rw [hf] at HN HFR
          obtain ⟨T, S, hT, hS, HTS⟩ : ∃ T S : Int, T = notedT t s q ∧ S = notedV t s q ∧ Hid (winB T S = true ∧ freshB T S q = false ∧ ∀ z ∈ zs, freshB T S z = false) := ⟨_, _, rfl, rfl, noted_win hf, noted_self hf, fun z hz => noted_keep hf (HI.out.2.1 z hz).1.1 (HI.out.2.1 z hz).1.2 (HI.out.2.1 z hz).2⟩
          rw [← hT, ← hS] at HN
          clear hT hS
          have hr := winB_range HTS.out.1
          have HW1 : Hid (∀ wz, Calls Try.prog 13 #[.agg #[.int .i64 T, .int .i64 S]] wz fun e w' => e = .returned (.bool true) ∧ Below wz.heap.size wz w') := fun wz => by have := implWin_any T S wz (wf_of (by omega)) (wf_of (by omega)); rw [HTS.out.1] at this; exact this
          have HF2 : Hid (∀ wz, Calls Try.prog 12 #[.agg #[.int .i64 T, .int .i64 S], .int .i64 (q : Int)] wz fun e w' => e = .returned (.bool false) ∧ Below wz.heap.size wz w') := fun wz => by have := implFresh_any T S q wz (wf_of (by omega)) (wf_of (by omega)) (wf_of (by omega)); rw [HTS.out.2.1] at this; exact this
          have HHI : Hid (¬ (q : Int) + 16 ≤ t) := fresh_high hf
          have HNE : Hid (∀ z ∈ zs, ¬ z = (q : Int)) := fun z hz e => by have := (HI.out.2.1 z hz).2; rw [e, hf] at this; cases this
          have HOB : Hid (∀ k, (Value.slice av zs.length cv).ownBlock = some k → k < wr.heap.size) := fun k hk => (World.ownsRow.lt HS.out.row k hk).2
          clear hr hf
          go_wp2_with fail
          refine (HN.out _).mono ?_
          rintro e w3 ⟨rfl, hb⟩
          have hb3 : Below w3.heap.size w3 (w3.alloc (.cells #[.int .i64 T, .int .i64 S] 27)) := (Below.refl _ _).alloc (Nat.le_refl _) _
          have HS3 : Hid (WSt w2 t s (.slice av zs.length cv) zs (w3.alloc (.cells #[.int .i64 T, .int .i64 S] 27))) := (HS.out.next hb).next hb3
          have X3 : Hid (WinIn w3.heap.size T S (w3.alloc (.cells #[.int .i64 T, .int .i64 S] 27))) := WinIn.made
          have HNB : Hid ((Value.slice av zs.length cv).ownBlock ≠ some w3.heap.size) := fun e => by have := HOB.out _ e; have := hb.size; omega
          clear hb hb3 HS HN e0 e1 HOB hcp
          go_wp2
          generalize (w3.alloc (.cells #[.int .i64 T, .int .i64 S] 27)) = w4 at HS3 X3 ⊢
          go_loopw [10] (fun kv wq => ∃ j : Nat, j ≤ zs.length ∧ kv = .int .i64 (j : Int) ∧ Hid (WSt w2 t s (.slice av zs.length cv) zs wq) ∧ Hid (WinIn w3.heap.size T S wq)) (fun kv _ => zs.length - (intOf kv).toNat)
          case atStart => exact ⟨0, by omega, rfl, HS3, X3⟩
          case round =>
            clear HS3 X3
            obtain ⟨j, hj, rfl, HS3, X3⟩ := hrel
            have hzl : zs.length ≤ 12 := by have := HI.out.2.2.1; omega
            by_cases hjl : j < zs.length
            · obtain ⟨g1, cap1, heq, -, -, hcells⟩ := own_ints HS3.out.row (by omega)
              obtain ⟨rfl, rfl⟩ : av = some ⟨g1, 0, none⟩ ∧ cv = cap1 := by simpa using heq
              have cz := hcells j hjl
              have hne := HNE.out (zs.getD j 0) (by rw [List.getD_eq_getElem?_getD, List.getElem?_eq_getElem hjl]; exact List.getElem_mem _)
              have hhi := HHI.out
              have e0 := HS3.out.c0
              have hj0 : (0 : Int) ≤ (j : Int) := by omega
              have hj1 : (j : Int) < (zs.length : Int) := by omega
              generalize zs.getD j 0 = z at cz hne
              have hneb : (z == (q : Int)) = false := by simp [hne]
              clear heq hcells hne
              go_wp2
              go_roundw
              case rel => exact ⟨j + 1, by omega, by go_num, HS3, X3⟩
              case measure => simp [intOf] <;> omega
            · obtain rfl : j = zs.length := by omega
              have HI2 : Hid (winB T S = true ∧ (∀ z ∈ zs ++ [(q : Int)], (0 ≤ z ∧ z ≤ 9999) ∧ freshB T S z = false) ∧ (zs ++ [(q : Int)]).length ≤ m + 1 ∧ (m + 1 = 0 → T = -1 ∧ S = 0) ∧ (0 < m + 1 → 0 < (zs ++ [(q : Int)]).length)) := by
                refine ⟨HTS.out.1, fun z hz => ?_, by have := HI.out.2.2.1; simp; omega, fun h => by omega, fun _ => by simp⟩
                rcases List.mem_append.1 hz with h | h
                · exact ⟨(HI.out.2.1 z h).1, HTS.out.2.2 z h⟩
                · simp at h; subst h; exact ⟨by omega, HTS.out.2.1⟩
              have hrow := HS3.out.row
              have hlt4 := HS3.out.lt
              clear hj hjl
              go_wp2_with (at_builtin; refine wpList_append_own _ rfl _ _ 24 rfl (w2.heap.size + 1) 3 i0 (.int .i64 0) 1 8 Try.underlying24 hi hz0 hz1 hz2 rfl (by decide) _ _ _ rfl (hrow.alloc _) ⟨wr.heap.size, 0, none⟩ 1 1 [.int .i64 (q : Int)] rfl rfl ?c1 ?c2 ?c3 ?c4 ?c5 ?_)
              case c1 =>
                have := cell_one_new wr (.int .i64 (q : Int)) 3
                simpa using this
              case c2 => intro u hu; simp at hu; subst hu; rfl
              case c3 => unfold maxLen; omega
              case c4 => omega
              case c5 => simp; omega
              intro v' w5 hown' hgrow _
              have HO : Hid (w5.ownsRow (w2.heap.size + 1) 3 1 v' (zs.length + 1) ((zs ++ [(q : Int)]).map (Value.int .i64))) := by show World.ownsRow _ _ _ _ _ _ _; rw [List.map_append]; exact hown'
              have HS5 : Hid (WSt w2 t s v' (zs ++ [(q : Int)]) w5) := HS3.out.app HO.out hgrow
              have X5 : Hid (WinIn w3.heap.size T S w5) := win_app (B := 0) (n := 0) (xs := []) (e := 0) (size := 0) X3.out HNB.out hgrow
              obtain ⟨av', cv', rfl⟩ : ∃ av' cv', v' = .slice av' (zs.length + 1) cv' := by
                rcases HO.out.2 with ⟨rfl, h0⟩ | ⟨g, cap', cur, rfl, _⟩
                · omega
                · exact ⟨_, _, rfl⟩
              clear hown' hgrow hrow HS3 X3 HO HNE HHI HNB
              have e0 := HS5.out.c0
              have e1 := HS5.out.c1
              go_wp2_with fail
              refine (HFR.out _).mono ?_
              rintro e w6 ⟨rfl, hb⟩
              replace HS5 : Hid (WSt w2 t s (.slice av' (zs.length + 1) cv') (zs ++ [(q : Int)]) w6) := HS5.out.next hb
              replace X5 : Hid (WinIn w3.heap.size T S w6) := X5.out.next hb
              clear hb
              clear e0 e1
              have x0 := X5.out.c0
              have x1 := X5.out.c1
              go_wp2_with fail
              refine (HW1.out _).mono ?_
              rintro e w7 ⟨rfl, hb⟩
              replace HS5 : Hid (WSt w2 t s (.slice av' (zs.length + 1) cv') (zs ++ [(q : Int)]) w7) := HS5.out.next hb
              replace X5 : Hid (WinIn w3.heap.size T S w7) := X5.out.next hb
              clear hb
              clear x0 x1
              have x0 := X5.out.c0
              have x1 := X5.out.c1
              go_wp2_with fail
              refine (HF2.out _).mono ?_
              rintro e w8 ⟨rfl, hb⟩
              replace HS5 : Hid (WSt w2 t s (.slice av' (zs.length + 1) cv') (zs ++ [(q : Int)]) w8) := HS5.out.next hb
              replace X5 : Hid (WinIn w3.heap.size T S w8) := X5.out.next hb
              clear hb
              clear x0 x1
              have e0 := HS5.out.c0
              have e1 := HS5.out.c1
              have x0 := X5.out.c0
              have x1 := X5.out.c1
              have f0 := HS5.out.fr 0
              have f1 := HS5.out.fr 1
              have HS6 : Hid _ := HS5.out.set T S
              clear HS5 X5 HFR HW1 HF2
              go_wp2
              go_roundw
              case rel => exact ⟨m + 1, T, S, zs ++ [(q : Int)], av', cv', by omega, by simp, by go_num, HS6, HI2⟩
              case measure => simp [intOf] <;> omega
        | false =>
          rw [hf] at HN HFR
          have HW1 : Hid (∀ wz, Calls Try.prog 13 #[.agg #[.int .i64 t, .int .i64 s]] wz fun e w' => e = .returned (.bool true) ∧ Below wz.heap.size wz w') := fun wz => by have hr := winB_range HI.out.1; have := implWin_any t s wz (wf_of (by omega)) (wf_of (by omega)); rw [HI.out.1] at this; exact this
          rw [(noted_no hf).1, (noted_no hf).2] at HN
          have HI2 : Hid (winB t s = true ∧ (∀ z ∈ zs, (0 ≤ z ∧ z ≤ 9999) ∧ freshB t s z = false) ∧ zs.length ≤ m + 1 ∧ (m + 1 = 0 → t = -1 ∧ s = 0) ∧ (0 < m + 1 → 0 < zs.length)) := by
            obtain ⟨h1, h2, h3, h4, h5⟩ := HI.out
            refine ⟨h1, h2, by omega, fun h => by omega, fun _ => ?_⟩
            rcases Nat.eq_zero_or_pos m with h | h
            · obtain ⟨rfl, rfl⟩ := h4 h
              rw [fresh_first (by omega) (by omega)] at hf
              cases hf
            · exact h5 h
          have HOB : Hid (∀ k, (Value.slice av zs.length cv).ownBlock = some k → k < wr.heap.size) := fun k hk => (World.ownsRow.lt HS.out.row k hk).2
          clear hf
          go_wp2_with fail
          refine (HN.out _).mono ?_
          rintro e w3 ⟨rfl, hb⟩
          have hb3 : Below w3.heap.size w3 (w3.alloc (.cells #[.int .i64 t, .int .i64 s] 27)) := (Below.refl _ _).alloc (Nat.le_refl _) _
          have HS3 : Hid (WSt w2 t s (.slice av zs.length cv) zs (w3.alloc (.cells #[.int .i64 t, .int .i64 s] 27))) := (HS.out.next hb).next hb3
          have X3 : Hid (WinIn w3.heap.size t s (w3.alloc (.cells #[.int .i64 t, .int .i64 s] 27))) := WinIn.made
          clear hb hb3 HS HN e0 e1 HOB hcp
          go_wp2
          generalize (w3.alloc (.cells #[.int .i64 t, .int .i64 s] 27)) = w4 at HS3 X3 ⊢
          go_loopw [10] (fun kv wq => kv = .int .i64 0 ∧ Hid (WSt w2 t s (.slice av zs.length cv) zs wq) ∧ Hid (WinIn w3.heap.size t s wq)) (fun kv _ => 0)
          case atStart => exact ⟨rfl, HS3, X3⟩
          case round =>
            clear HS3 X3
            obtain ⟨rfl, HS5, X5⟩ := hrel
            by_cases hz : (0 : Int) < (zs.length : Int)
            · have e0 := HS5.out.c0
              have e1 := HS5.out.c1
              go_wp2_with fail
              refine (HFR.out _).mono ?_
              rintro e w6 ⟨rfl, hb⟩
              replace HS5 : Hid (WSt w2 t s (.slice av zs.length cv) (zs) w6) := HS5.out.next hb
              replace X5 : Hid (WinIn w3.heap.size t s w6) := X5.out.next hb
              clear hb
              clear e0 e1
              have x0 := X5.out.c0
              have x1 := X5.out.c1
              go_wp2_with fail
              refine (HW1.out _).mono ?_
              rintro e w7 ⟨rfl, hb⟩
              replace HS5 : Hid (WSt w2 t s (.slice av zs.length cv) (zs) w7) := HS5.out.next hb
              replace X5 : Hid (WinIn w3.heap.size t s w7) := X5.out.next hb
              clear hb
              clear x0 x1
              have e0 := HS5.out.c0
              have e1 := HS5.out.c1
              have x0 := X5.out.c0
              have x1 := X5.out.c1
              have f0 := HS5.out.fr 0
              have f1 := HS5.out.fr 1
              have HS6 : Hid _ := HS5.out.set t s
              clear HS5 X5 HFR HW1
              go_wp2
              go_roundw
              case rel => exact ⟨m + 1, t, s, zs, av, cv, by omega, rfl, by go_num, HS6, HI2⟩
              case measure => simp [intOf] <;> omega
            · have e0 := HS5.out.c0
              have e1 := HS5.out.c1
              go_wp2_with fail
              refine (HFR.out _).mono ?_
              rintro e w6 ⟨rfl, hb⟩
              replace HS5 : Hid (WSt w2 t s (.slice av zs.length cv) (zs) w6) := HS5.out.next hb
              replace X5 : Hid (WinIn w3.heap.size t s w6) := X5.out.next hb
              clear hb
              clear e0 e1
              have x0 := X5.out.c0
              have x1 := X5.out.c1
              go_wp2_with fail
              refine (HW1.out _).mono ?_
              rintro e w7 ⟨rfl, hb⟩
              replace HS5 : Hid (WSt w2 t s (.slice av zs.length cv) (zs) w7) := HS5.out.next hb
              replace X5 : Hid (WinIn w3.heap.size t s w7) := X5.out.next hb
              clear hb
              clear x0 x1
              have e0 := HS5.out.c0
              have e1 := HS5.out.c1
              have x0 := X5.out.c0
              have x1 := X5.out.c1
              have f0 := HS5.out.fr 0
              have f1 := HS5.out.fr 1
              have HS6 : Hid _ := HS5.out.set t s
              clear HS5 X5 HFR HW1
              go_wp2
              go_roundw
              case rel => exact ⟨m + 1, t, s, zs, av, cv, by omega, rfl, by go_num, HS6, HI2⟩
              case measure => simp [intOf] <;> omega
      · obtain rfl : m = 12 := by omega
        have HBW : Hid (Below w.heap.size w wr) := HB1.out.trans ((HB2.out.trans (HS.out.below.mono HB2.out.size)).mono HB1.out.size)
        have HCR : Hid (CodeIn wr.heap.size wr a0 len0) := codeIn_later HC.out HBW.out
        have hzp : (0 : Int) < (zs.length : Int) := by have := HI.out.2.2.2.2 (by omega); omega
        clear HI HS hm hlt HC HP HXB HB1 HB2
        go_wp2_with fail
        refine (drawNoted_any _ _ _ _ HCR.out).mono ?_
        rintro e w3 ⟨y, u, n, rfl, hy, hu, hn, hb⟩
        replace HBW : Hid (Below w.heap.size w w3) := HBW.out.trans (hb.mono HBW.out.size)
        have HI1 : Hid (∀ wz, Calls Try.prog 11 #[.agg #[.int .i64 y, .int .i64 u], .int .i64 n] wz fun e w' => e = .returned (.tuple #[.agg #[.int .i64 (notedT y u n), .int .i64 (notedV y u n)], .bool (freshB y u n)]) ∧ Below wz.heap.size wz w') := fun wz => implNoted_any y u n wz (wf_of (by omega)) (wf_of (by omega)) (wf_of (by omega))
        have HI2 : Hid (∀ wz, Calls Try.prog 15 #[.agg #[.int .i64 y, .int .i64 u], .int .i64 n] wz fun e w' => e = .returned (.tuple #[.agg #[.int .i64 (notedT y u n), .int .i64 (notedV y u n)], .bool (freshB y u n)]) ∧ Below wz.heap.size wz w') := fun wz => specNoted_any y u n wz
        have HI3 : Hid (∀ wz, Calls Try.prog 12 #[.agg #[.int .i64 y, .int .i64 u], .int .i64 n] wz fun e w' => e = .returned (.bool (freshB y u n)) ∧ Below wz.heap.size wz w') := fun wz => implFresh_any y u n wz (wf_of (by omega)) (wf_of (by omega)) (wf_of (by omega))
        have HI4 : Hid (∀ wz, Calls Try.prog 16 #[.agg #[.int .i64 y, .int .i64 u], .int .i64 n] wz fun e w' => e = .returned (.bool (freshB y u n)) ∧ Below wz.heap.size wz w') := fun wz => specFresh_any y u n wz
        have HI5 : Hid (∀ wz, Calls Try.prog 13 #[.agg #[.int .i64 y, .int .i64 u]] wz fun e w' => e = .returned (.bool (winB y u)) ∧ Below wz.heap.size wz w') := fun wz => implWin_any y u wz (wf_of (by omega)) (wf_of (by omega))
        have HI6 : Hid (∀ wz, Calls Try.prog 17 #[.agg #[.int .i64 y, .int .i64 u]] wz fun e w' => e = .returned (.bool (winB y u)) ∧ Below wz.heap.size wz w') := fun wz => specWin_any y u wz
        clear hy hu hn hb HCR
        generalize notedT y u n = T at HI1 HI2
        generalize notedV y u n = S at HI1 HI2
        generalize freshB y u n = d1 at HI1 HI2 HI3 HI4
        generalize winB y u = d2 at HI5 HI6
        have hb : Below w3.heap.size w3 (w3.alloc (.cells #[.int .i64 y, .int .i64 u] 27)) := (Below.refl _ _).alloc (Nat.le_refl _) _
        have Y : Hid (WinIn w3.heap.size y u (w3.alloc (.cells #[.int .i64 y, .int .i64 u] 27))) := WinIn.made
        replace HBW : Hid (Below w.heap.size w (w3.alloc (.cells #[.int .i64 y, .int .i64 u] 27))) := HBW.out.trans (hb.mono HBW.out.size)
        clear hb
        go_wp2_with fail
        generalize (w3.alloc (.cells #[.int .i64 y, .int .i64 u] 27)) = w4 at Y HBW ⊢
        refine (HI1.out _).mono ?_
        rintro e w5 ⟨rfl, hb⟩
        have hb6 : Below w4.heap.size w4 (w5.alloc (.cells #[.int .i64 T, .int .i64 S] 27)) := hb.trans (((Below.refl _ _).alloc (Nat.le_refl _) _).mono hb.size)
        have A : Hid (WinIn w5.heap.size T S (w5.alloc (.cells #[.int .i64 T, .int .i64 S] 27))) := WinIn.made
        replace Y : Hid (WinIn w3.heap.size y u (w5.alloc (.cells #[.int .i64 T, .int .i64 S] 27))) := Y.out.next hb6
        replace HBW : Hid (Below w.heap.size w (w5.alloc (.cells #[.int .i64 T, .int .i64 S] 27))) := HBW.out.trans (hb6.mono HBW.out.size)
        have q0 := Y.out.c0
        have q1 := Y.out.c1
        clear hb hb6 HI1
        go_wp2_with fail
        generalize (w5.alloc (.cells #[.int .i64 T, .int .i64 S] 27)) = w6 at A Y HBW q0 q1 ⊢
        refine (HI2.out _).mono ?_
        rintro e w7 ⟨rfl, hb⟩
        have hb6 : Below w6.heap.size w6 (w7.alloc (.cells #[.int .i64 T, .int .i64 S] 27)) := hb.trans (((Below.refl _ _).alloc (Nat.le_refl _) _).mono hb.size)
        have C : Hid (WinIn w7.heap.size T S (w7.alloc (.cells #[.int .i64 T, .int .i64 S] 27))) := WinIn.made
        replace Y : Hid (WinIn w3.heap.size y u (w7.alloc (.cells #[.int .i64 T, .int .i64 S] 27))) := Y.out.next hb6
        replace A : Hid (WinIn w5.heap.size T S (w7.alloc (.cells #[.int .i64 T, .int .i64 S] 27))) := A.out.next hb6
        replace HBW : Hid (Below w.heap.size w (w7.alloc (.cells #[.int .i64 T, .int .i64 S] 27))) := HBW.out.trans (hb6.mono HBW.out.size)
        clear hb hb6 HI2 q0 q1
        go_wp2_with fail
        generalize (w7.alloc (.cells #[.int .i64 T, .int .i64 S] 27)) = w8 at A Y C HBW ⊢
        obtain ⟨Sx, hS0, hNE, HK⟩ := win_class (Below.refl w8.heap.size w8) (Nat.le_refl _)
        have y0 : ∀ s : Hw Sx, s.w.cell? ⟨w3.heap.size, 0, none⟩ = some (.int .i64 y) := fun s => ((HK.out.2 _ s.ok).cell (p := ⟨w3.heap.size, 0, none⟩) Y.out.lt).trans Y.out.c0
        have y1 : ∀ s : Hw Sx, s.w.cell? ⟨w3.heap.size, 1, none⟩ = some (.int .i64 u) := fun s => ((HK.out.2 _ s.ok).cell (p := ⟨w3.heap.size, 1, none⟩) Y.out.lt).trans Y.out.c1
        have b0 : ∀ s : Hw Sx, s.w.cell? ⟨w5.heap.size, 0, none⟩ = some (.int .i64 T) := fun s => ((HK.out.2 _ s.ok).cell (p := ⟨w5.heap.size, 0, none⟩) A.out.lt).trans A.out.c0
        have b1 : ∀ s : Hw Sx, s.w.cell? ⟨w5.heap.size, 1, none⟩ = some (.int .i64 S) := fun s => ((HK.out.2 _ s.ok).cell (p := ⟨w5.heap.size, 1, none⟩) A.out.lt).trans A.out.c1
        have k0 : ∀ s : Hw Sx, s.w.cell? ⟨w7.heap.size, 0, none⟩ = some (.int .i64 T) := fun s => ((HK.out.2 _ s.ok).cell (p := ⟨w7.heap.size, 0, none⟩) C.out.lt).trans C.out.c0
        have k1 : ∀ s : Hw Sx, s.w.cell? ⟨w7.heap.size, 1, none⟩ = some (.int .i64 S) := fun s => ((HK.out.2 _ s.ok).cell (p := ⟨w7.heap.size, 1, none⟩) C.out.lt).trans C.out.c1
        have eql : ∀ s : Hw Sx, (Op.equalIn 10000 27 (.agg #[.int .i64 T, .int .i64 S]) (.agg #[.int .i64 T, .int .i64 S])).run Try.prog s.w = .ok true s.w := fun s => win_eql T S s.w
        have wg := winGuard
        clear A Y C
        refine wp_region_held (S := Sx) (by kernel_rfl) (by kernel_rfl) hS0 ?_
        repeat (go_big_quiet_step (first | (go_at_call 12; exact Calls.held (HI3.out _) (HK.out.1 _)) | (go_at_call 16; exact Calls.held (HI4.out _) (HK.out.1 _)) | (go_at_call 13; exact Calls.held (HI5.out _) (HK.out.1 _)) | (go_at_call 17; exact Calls.held (HI6.out _) (HK.out.1 _))))
        refine wpQuiet_nil ?_
        rintro _ ⟨sw, rfl⟩
        have hBB := HBW.out.trans ((HK.out.2 _ sw.ok).mono HBW.out.size)
        clear y0 y1 b0 b1 k0 k1 eql HK HI3 HI4 HI5 HI6
        go_wp2
        go_ret
        exact ⟨by show Ending.returned (.bool (decide (0 < zs.length))) = _; rw [decide_eq_true (by omega)], hBB⟩
  · have hd : decide ((1048576 : Int) < (len0 : Int)) = true := by simp; omega
    clear hcode
    go_enter Try.func3, Try.ntmps3
    go_wp2_with fail
    refine (big_any _ _ _ _).mono ?_
    rintro e w1 ⟨rfl, rfl⟩
    rw [hd]
    go_wp2
    go_ret
    exact ⟨rfl, Below.refl _ _⟩

theorem laidOut : laidOutB Try.prog = true := by kernel_rfl
set_option maxRecDepth 100000 in
theorem lifted (os : Os) (started : os.Started) (H : Type) (enc : TypeId × Value → H) :
    ReturnsInHanded {} Try.checked os 3 .any (Rows.fnWindowsSpec.pre6 enc Try.prog Try.f3 Rows.fnWindowsRow.domain false) (Rows.fnWindowsSpec.post enc Try.prog Try.f3 false true false false) := by
  refine returnsInHanded_of_change (C := Try.checked) own started (by kernel_rfl) Try.func3
    (ChangeSpec.witness6 (enc := enc) (C := Try.checked) false ⟨#[], #[.slice none 0 0], []⟩ 8 (by kernel_rfl) (by kernel_rfl) (by kernel_rfl) (by kernel_rfl)) ?_
  intro W base args ds gs before hval0 hW hcnd _
  have hval : ∀ (j : Nat) t v, Try.f3.params[j]? = some t → args[j]? = some v → Value.okWide Try.prog W .any base t v := hval0
  have hW' := hW
  obtain ⟨p, q, hA0, hV, rfl, hfz, hnd⟩ := hW
  have hA : DataW.TrodAll enc Try.prog W 0 (fun _ => true) true Try.f3.params.toList args.toList ds p := hA0
  rw [Try.params3] at hA hval
  obtain ⟨v0, vs0, d0, ds0, p0, q0, hargs, rfl, rfl, h0, r0⟩ := trodAll_cons hA
  obtain ⟨rfl, rfl, rfl⟩ := trodAll_nil r0
  obtain rfl : args = #[v0] := by cases args; simp_all
  obtain ⟨rfl, rfl⟩ := trodVars_none hV
  obtain ⟨a0, len0, cap0, rfl⟩ := okWide_slice Try.underlying22 (hval 0 22 v0 rfl rfl)
  have k0 := h0
  have lt0 : ∀ x ∈ p0, x.block < W.heap.size := by obtain ⟨m, hm⟩ := k0; exact DataW.trod_lt m _ _ _ hm
  clear hA0 hval0
  refine (walk a0 len0 cap0  W (code_of h0)).mono fun e W' ⟨he, bel⟩ => ?_
  subst he
  exact ⟨_, rfl, _, _, _, [], _, [], hW', trodAll_mk1 (shut_bool Try.underlying4 _), (trodAll_cons_mk (Below.trod laidOut (by kernel_rfl) (of_decide_eq_true (by kernel_rfl)) k0 bel lt0) trodAll_mk0), rfl, bel.frame _, fun h => by cases h⟩

theorem over : Rows.fnWindowsRow.holds Try.pinned (OpenSpec.ofChange Rows.fnWindowsSpec) :=
  OpenClaim.holds_of_wide 3 Try.f3 rfl rfl rfl rfl rfl rfl rfl ⟨rfl, rfl, rfl, rfl, rfl⟩ rfl rfl rfl rfl rfl (by kernel_rfl) Try.func3 (by kernel_rfl)
    (of_decide_eq_true (by kernel_rfl)) (by unfold Func.isWrapper; first | (rw [if_pos (by decide +kernel)]; kernel_rfl) | (rw [if_neg (by decide +kernel)]; exact ⟨rfl, rfl⟩))
    (fun os started H enc _ => lifted os started H enc)
end fnWindows

theorem fnWindows_holds : Rows.FnWindowsSaid := fnWindows.over
#print axioms fnWindows_holds
end Go.Proofs.Ytmbaipednonhpaa
