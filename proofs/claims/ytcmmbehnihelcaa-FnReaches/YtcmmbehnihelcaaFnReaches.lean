/- For every code: what can be had of drawn terms can be had by who knows more; who knows what can be had can have no more; what is sealed, paired or hashed is had as the document tells; and drawn arenas, right or not, answer as the document tells. No condition. -/
import Derived.Test.YtcmmbehnihelcaaRows
import Derived.Test.YtcmmbehnihelcaaDrawRe
import Derived.Test.YtcmmbehnihelcaaSpecReach5
import Derived.Test.YtcmmbehnihelcaaImplReach
import Derived.Test.YtcmmbehnihelcaaRegionL
import Derived.Test.YtcmmbehnihelcaaRegionR
import Derived.Test.YtcmmbehnihelcaaHeldQ
import Derived.Test.YtcmmbehnihelcaaPlainReach4
import Derived.Test.YtcmmbehnihelcaaLawBox
import Derived.Test.YtcmmbehnihelcaaLawInts2
import Derived.Test.YtcmmbehnihelcaaLawBools
import Derived.Test.YtcmmbehnihelcaaCodeW
import Derived.Test.YtcmmbehnihelcaaSameB
import Derived.Test.YtcmmbehnihelcaaPlainTerm
import Derived.WalkKit
import Derived.ProofKit
import Derived.OpenShut
import Derived.ShutString
import Derived.ChangeOld
import Derived.PlainAid
import Derived.Deep.RegionHeld3
namespace Go.Proofs.Ytcmmbehnihelcaa
namespace fnReaches
open Go.ChangeShapes Go.WideShapes Go.ChangeAt Go.RowKit Go.PlainAid
open Go.ChangeMaps (open_string shut_string)
set_option linter.unusedVariables false

theorem own : ownKnob Try.prog.godebug = none := by kernel_rfl

/-- What operation i of the region of 'who knows more' does: 3 and 12 append to a row that was made, all others make memory at most. -/
def Rk6 (B : Nat) (i : Nat) (w w' : World) : Prop :=
  (i = 3 → ∃ b, B ≤ b ∧ w.heap[b]? = some (.cells #[] 3 (0, 0)) ∧ w.grownBy w' (some b)) ∧ (i = 12 → ∃ b, B ≤ b ∧ w.grownBy w' (some b)) ∧ (i ≠ 3 → i ≠ 12 → Below w.heap.size w w')
theorem Rk6.below {B i : Nat} {w w' : World} (h : Rk6 B i w w') (h3 : i ≠ 3) (h12 : i ≠ 12) : Below w.heap.size w w' := h.2.2 h3 h12
theorem rkeep {B : Nat} {w w' : World} (i : Nat) (h3 : i ≠ 3) (h12 : i ≠ 12) (h : Below w.heap.size w w') : Rk6 B i w w' := ⟨fun e => absurd e h3, fun e => absurd e h12, fun _ _ => h⟩
theorem Rk6.all {B i : Nat} {w w' : World} (h : Rk6 B i w w') (hB : B ≤ w.heap.size) : Below B w w' := by
  by_cases h3 : i = 3
  · obtain ⟨b, h1, _, h2⟩ := h.1 h3
    exact gb_below h2 h1 hB
  · by_cases h12 : i = 12
    · obtain ⟨b, h1, h2⟩ := h.2.1 h12
      exact gb_below h2 h1 hB
    · exact (h.2.2 h3 h12).mono hB
theorem Rk6.bools {B i : Nat} {w w' : World} {v : Value} {ms : List Bool} (h : Rk6 B i w w') (h12 : i ≠ 12) (ho : OwnBool B w v ms) : OwnBool B w' v ms := by
  by_cases h3 : i = 3
  · obtain ⟨c, _, h1, h2⟩ := h.1 h3
    refine World.ownsRow.kept ho h2 ?_
    rcases ho.2 with ⟨rfl, _⟩ | ⟨g, cap, cur, rfl, _, hh, _⟩
    · exact .inl rfl
    · right
      intro e
      simp [Value.ownBlock] at e
      rw [e, h1] at hh
      simp at hh
  · exact OwnBool.later ho (h.2.2 h3 h12)
theorem Rk6.one {B i b : Nat} {w w' : World} {v : Value} (h : Rk6 B i w w') (h12 : i ≠ 12) (hb : w.heap[b]? = some (.cells #[v] 3 (0, 0))) : w'.heap[b]? = some (.cells #[v] 3 (0, 0)) := by
  by_cases h3 : i = 3
  · obtain ⟨c, _, h1, h2⟩ := h.1 h3
    refine (h2.block b (Array.getElem?_eq_some_iff.1 hb).1 ?_).trans hb
    intro e
    simp at e
    rw [e, h1] at hb
    simp at hb
  · exact ((h.2.2 h3 h12).block b (Array.getElem?_eq_some_iff.1 hb).1).trans hb
set_option maxHeartbeats 25600000 in
set_option maxRecDepth 20000 in
theorem walk (a0 : Option Addr) (len0 cap0 : Nat) (w : World) (hcode : len0 ≤ 1048576 → CodeIn w.heap.size w a0 len0) :
    Calls Try.prog 3 #[.slice a0 len0 cap0] w fun e w' => e = .returned (.bool true) ∧ Below w.heap.size w w' := by
  by_cases hbig : len0 ≤ 1048576
  · have HC : Hid (CodeIn w.heap.size w a0 len0) := hcode hbig
    have HB : Hid (Below w.heap.size w w) := Below.refl _ _
    have hd : decide ((1048576 : Int) < (len0 : Int)) = false := by simp; omega
    clear hcode hbig
    obtain ⟨i0, hi, hz0, hz1, hz2⟩ := info_parts infoIntS
    go_enter Try.func3, Try.ntmps3
    go_wp2_with fail
    refine (big_any _ _ _ _).mono ?_
    rintro e wz ⟨rfl, rfl⟩
    rw [hd]
    clear hd
    go_wp2_with fail
    refine (drawKnown_any _ _ _ _ HC.out).mono ?_
    rintro e w1 ⟨v1, ns, gk, ck, xs, rfl, hn1, hn2, hall, hxl, hxb, ho1, hok, hb⟩
    obtain ⟨a1, c1, rfl, -, -⟩ := ho1.row
    have OA := Own.made ho1
    have OK := OwnZ.made hok
    clear ho1 hok
    replace HB : Hid (Below w.heap.size w w1) := HB.out.trans (hb.mono HB.out.size)
    replace HC : Hid (CodeIn w1.heap.size w1 a0 len0) := codeIn_later HC.out hb
    clear hb
    have HALL : Hid (allFrom ns ns 0 = true) := hall
    have HXB : Hid (∀ x ∈ xs, 0 ≤ x ∧ x < (ns.length : Int)) := hxb
    clear hall hxb
    have HRE : Hid (∀ (ys : List Int), ys.length ≤ 100 → (∀ x ∈ ys, 0 ≤ x ∧ x < (ns.length : Int)) → ∀ (a la : Option Addr) (ca ck : Nat) (w : World), RowN w.heap.size w a ns → RowI w.heap.size w la ys → Calls Try.prog 11 #[.agg #[.slice a ns.length ca], .slice la ys.length ck] w fun e w' => ∃ v bs, e = .returned v ∧ IsReach ns ys bs ∧ OwnBool w.heap.size w' v bs ∧ Below w.heap.size w w') := fun ys hl hy a la ca ck w hr hk => by
      have hA : arenaB ns = true := by unfold arenaB; rw [HALL.out]; simp; omega
      refine (implReach_any ca ck a la ns ys w (by omega) (by omega) (all_fits HALL.out (by omega)) (fun x hx => by have := hy x hx; omega) hr hk).mono ?_
      rintro e w' ⟨v, bs, h1, h2, h3⟩
      rcases h2 with ⟨_, h2⟩ | ⟨h2, _⟩
      · exact ⟨v, bs, h1, h2, h3⟩
      · rw [hA] at h2; simp at h2
    have HDE : Hid (∀ (bs : List Bool), IsReach ns xs bs → ∀ (a la : Option Addr) (ca ck i : Nat) (w : World), i < ns.length → RowN w.heap.size w a ns → RowI w.heap.size w la xs → Calls Try.prog 13 #[.agg #[.slice a ns.length ca], .slice la xs.length ck, .int .i64 (i : Int)] w fun e w' => e = .returned (.bool (bs.getD i false)) ∧ Below w.heap.size w w') := fun bs hbs a la ca ck i w hi hr hk => by
      have hA : arenaB ns = true := by unfold arenaB; rw [HALL.out]; simp; omega
      refine (implDerives_any ca ck a la ns xs (i : Int) w (by omega) (by omega) (all_fits HALL.out (by omega)) (fun x hx => by have := HXB.out x hx; omega) hr hk).mono ?_
      rintro e w' ⟨cs, h1, h2, h3⟩
      have e1 : cs = bs := h1.one (.inl ⟨hA, hbs⟩)
      refine ⟨?_, h3⟩
      rw [h2, e1]
      unfold derB
      rw [inB_mk ⟨by omega, by rw [hbs.len]; omega⟩]
      simp
    have hbb : Below w1.heap.size w1 (w1.alloc (.cells #[.slice a1 ns.length c1] 26)) := (Below.refl _ _).alloc (Nat.le_refl _) _
    have BA : Var w1.heap.size (.slice a1 ns.length c1) (w1.alloc (.cells #[.slice a1 ns.length c1] 26)) := Var.made
    replace OA := OA.next hbb
    replace OK := OK.next hbb
    replace HB : Hid (Below w.heap.size w (w1.alloc (.cells #[.slice a1 ns.length c1] 26))) := HB.out.trans (hbb.mono HB.out.size)
    replace HC : Hid (CodeIn (w1.alloc (.cells #[.slice a1 ns.length c1] 26)).heap.size (w1.alloc (.cells #[.slice a1 ns.length c1] 26)) a0 len0) := codeIn_later HC.out hbb
    clear hbb
    have q0 := BA.c
    go_wp2_with fail
    clear q0
    generalize w1.alloc (.cells #[.slice a1 ns.length c1] 26) = w2 at OA OK BA HB HC ⊢
    refine (HRE.out xs (by omega) HXB.out a1 (some ⟨gk, 0, none⟩) c1 ck w2 OA.rowAt OK.rowAt).mono ?_
    rintro e w3 ⟨vH, bs, rfl, hIs, hoH, hb⟩
    obtain ⟨aH, cH, rfl, -, -⟩ := hoH.row
    have OH := OwnY.made hoH
    have hbl : bs.length = ns.length := hIs.len
    have HIS : Hid (IsReach ns xs bs) := hIs
    clear hoH hIs
    replace OA := OA.next hb
    replace OK := OK.next hb
    replace BA := BA.next hb
    replace HB : Hid (Below w.heap.size w w3) := HB.out.trans (hb.mono HB.out.size)
    replace HC : Hid (CodeIn w3.heap.size w3 a0 len0) := codeIn_later HC.out hb
    clear hb
    go_wp2_with fail
    refine (places_any a0 len0 cap0 w3 HC.out).mono ?_
    rintro e w4 ⟨gp, cp, ps, rfl, hpl, hpb, hg1, hg2, hcl, hb⟩
    have PL : Var gp (.int .i64 ((ps.getD 0 0 : Nat) : Int)) w4 := ⟨hg2, hcl 0 (by omega)⟩
    clear hcl hpb hpl hg1 hg2
    replace OA := OA.next hb
    replace OK := OK.next hb
    replace BA := BA.next hb
    replace OH := OH.next hb
    replace HB : Hid (Below w.heap.size w w4) := HB.out.trans (hb.mono HB.out.size)
    replace HC : Hid (CodeIn w4.heap.size w4 a0 len0) := codeIn_later HC.out hb
    clear hb
    generalize ps.getD 0 0 = p0 at PL
    clear ps
    obtain ⟨x, hx0, hx1⟩ : ∃ x : Nat, Int.tmod (p0 : Int) (ns.length : Int) = (x : Int) ∧ x < ns.length := ⟨p0 % ns.length, by rw [Int.tmod_eq_emod_of_nonneg (by omega)]; simp, Nat.mod_lt _ (by omega)⟩
    have hnz : ¬ (ns.length : Int) = 0 := by omega
    have hnn : ¬ ns = [] := by intro e; rw [e] at hn1; simp at hn1
    go_wp2_with fail
    refine wp_region_usedL (I := fun w' => Below w4.heap.size w4 w') (R := Rk6 w4.heap.size) (drop := fun k => if k = 1 then some 3 else if k = 3 then some 12 else if k = 11 then some 12 else none)
      (fs := #[⟨[31], fun vs _ => vs = [.agg #[.slice a1 ns.length c1]]⟩, ⟨[32], fun vs w' => ∃ b, vs = [.slice (some ⟨b, 0, none⟩) 0 0] ∧ w4.heap.size ≤ b ∧ w'.heap[b]? = some (.cells #[] 3 (0, 0))⟩, ⟨[33], fun vs _ => vs = [.slice (some ⟨gk, 0, none⟩) xs.length ck]⟩, ⟨[34], fun vs w' => ∃ v, vs = [v] ∧ w'.ownsRow w4.heap.size 3 1 v xs.length (xs.map (Value.int .i64))⟩, ⟨[35], fun vs _ => vs = [.slice (some ⟨gp, 0, none⟩) 12 cp]⟩, ⟨[36], fun vs _ => vs = [.pointer (some ⟨gp, 0, none⟩)]⟩, ⟨[37], fun vs _ => vs = [.int .i64 (p0 : Int)]⟩, ⟨[38], fun vs _ => vs = [.pointer (some ⟨w1.heap.size, 0, none⟩)]⟩, ⟨[39], fun vs _ => vs = [.slice a1 ns.length c1]⟩, ⟨[40], fun vs _ => vs = [.int .i64 (ns.length : Int)]⟩, ⟨[41], fun vs _ => vs = [.int .i64 (x : Int)]⟩, ⟨[42], fun vs w' => ∃ b, vs = [.slice (some ⟨b, 0, none⟩) 1 1] ∧ w'.heap[b]? = some (.cells #[.int .i64 (x : Int)] 3 (0, 0))⟩, ⟨[43], fun vs w' => ∃ v, vs = [v] ∧ w'.ownsRow w4.heap.size 3 1 v (xs.length + 1) ((xs ++ [(x : Int)]).map (Value.int .i64))⟩, ⟨[44], fun vs w' => ∃ v ms, vs = [v] ∧ IsReach ns (xs ++ [(x : Int)]) ms ∧ OwnBool w4.heap.size w' v ms⟩, ⟨[7], fun vs w' => ∃ v ms, vs = [v] ∧ IsReach ns (xs ++ [(x : Int)]) ms ∧ OwnBool w4.heap.size w' v ms⟩])
      (by kernel_rfl) _ rfl (by kernel_rfl) ?stab ?istab ?start ?exec ?fin
    case stab =>
      intro k i f hki hf
      have hk : k < 15 := (Array.getElem?_eq_some_iff.1 hf).1
      rcases (show k = 0 ∨ k = 1 ∨ k = 2 ∨ k = 3 ∨ k = 4 ∨ k = 5 ∨ k = 6 ∨ k = 7 ∨ k = 8 ∨ k = 9 ∨ k = 10 ∨ k = 11 ∨ k = 12 ∨ k = 13 ∨ k = 14 by omega) with rfl | rfl | rfl | rfl | rfl | rfl | rfl | rfl | rfl | rfl | rfl | rfl | rfl | rfl | rfl
      all_goals
        simp only [List.getElem?_toArray, List.getElem?_cons_succ, List.getElem?_cons_zero, Option.some.injEq] at hf
        subst hf
      · exact fun _ vs _ _ _ h => h
      · exact fun hah vs w' w'' hR ⟨b, h1, h2, h3⟩ => ⟨b, h1, h2, ((hR.below (by rintro rfl; exact Bool.noConfusion (hah.symm.trans (by kernel_rfl) : true = false)) (by rintro rfl; exact Bool.noConfusion (hah.symm.trans (by kernel_rfl) : true = false))).block b (Array.getElem?_eq_some_iff.1 h3).1).trans h3⟩
      · exact fun _ vs _ _ _ h => h
      · exact fun hah vs w' w'' hR ⟨v, h1, h2⟩ => ⟨v, h1, own_next h2 (hR.below (by rintro rfl; exact absurd rfl hki) (by rintro rfl; exact Bool.noConfusion (hah.symm.trans (by kernel_rfl) : true = false)))⟩
      · exact fun _ vs _ _ _ h => h
      · exact fun _ vs _ _ _ h => h
      · exact fun _ vs _ _ _ h => h
      · exact fun _ vs _ _ _ h => h
      · exact fun _ vs _ _ _ h => h
      · exact fun _ vs _ _ _ h => h
      · exact fun _ vs _ _ _ h => h
      · exact fun hah vs w' w'' hR ⟨b, h1, h3⟩ => ⟨b, h1, hR.one (by rintro rfl; exact Bool.noConfusion (hah.symm.trans (by kernel_rfl) : true = false)) h3⟩
      · exact fun hah vs w' w'' hR ⟨v, h1, h2⟩ => ⟨v, h1, own_next h2 (hR.below (by rintro rfl; exact Bool.noConfusion (hah.symm.trans (by kernel_rfl) : true = false)) (by rintro rfl; exact absurd rfl hki))⟩
      · exact fun hah vs w' w'' hR ⟨v, ms, h1, h2, h3⟩ => ⟨v, ms, h1, h2, hR.bools (by rintro rfl; exact Bool.noConfusion (hah.symm.trans (by kernel_rfl) : true = false)) h3⟩
      · exact fun hah vs w' w'' hR ⟨v, ms, h1, h2, h3⟩ => ⟨v, ms, h1, h2, hR.bools (by rintro rfl; exact Bool.noConfusion (hah.symm.trans (by kernel_rfl) : true = false)) h3⟩
    case istab => exact fun i w' w'' hR h => h.trans (hR.all h.size)
    case start => exact (Below.refl _ _).drew
    case exec =>
      intro i o f hio hf act wq hsz hI hold hpre
      replace hsz : 44 < act.tmps.size := by rw [hsz]; simp
      have hi11 : i < 15 := (Array.getElem?_eq_some_iff.1 hio).1
      rcases (show i = 0 ∨ i = 1 ∨ i = 2 ∨ i = 3 ∨ i = 4 ∨ i = 5 ∨ i = 6 ∨ i = 7 ∨ i = 8 ∨ i = 9 ∨ i = 10 ∨ i = 11 ∨ i = 12 ∨ i = 13 ∨ i = 14 by omega) with rfl | rfl | rfl | rfl | rfl | rfl | rfl | rfl | rfl | rfl | rfl | rfl | rfl | rfl | rfl
      all_goals
        simp only [List.getElem?_toArray, List.getElem?_cons_succ, List.getElem?_cons_zero, Option.some.injEq] at hio hf
        subst hio hf
      · refine ⟨rfl, ?_⟩
        have g3 : act.tmps.getD 3 undef = .pointer (some ⟨w1.heap.size, 0, none⟩) := hold 3 (free_spec (by kernel_rfl))
        have hc := (BA.next hI).c
        refine exec_same (v := .agg #[.slice a1 ns.length c1]) ?_ ⟨_, rfl, rkeep 0 (by decide) (by decide) (Below.refl _ _), at_one (by omega) rfl⟩
        simp [go_sem, Act.eval, g3, hc]
      · refine ⟨rfl, ?_⟩
        refine exec_made (v := .slice (some ⟨wq.heap.size, 0, none⟩) 0 0) (w' := wq.alloc (.cells #[] 3)) ?_ ⟨_, rfl, rkeep 1 (by decide) (by decide) ((Below.refl _ _).alloc (Nat.le_refl _) _), at_one (by omega) ⟨_, rfl, hI.size, heap_alloc_new wq _⟩⟩
        simp [go_sem, Act.eval]
      · refine ⟨rfl, ?_⟩
        have g4 : act.tmps.getD 4 undef = .slice (some ⟨gk, 0, none⟩) xs.length ck := hold 4 (free_spec (by kernel_rfl))
        refine exec_same (v := .slice (some ⟨gk, 0, none⟩) xs.length ck) ?_ ⟨_, rfl, rkeep 2 (by decide) (by decide) (Below.refl _ _), at_one (by omega) rfl⟩
        simp [go_sem, Act.eval, g4]
      · refine ⟨rfl, ?_⟩
        obtain ⟨b, e32, hb1, hb2⟩ := of_one (hpre ⟨1, .data⟩ (by simp) rfl _ rfl (.inr rfl))
        have g32 : act.tmps.getD 32 undef = .slice (some ⟨b, 0, none⟩) 0 0 := by simpa using e32
        have g33 : act.tmps.getD 33 undef = .slice (some ⟨gk, 0, none⟩) xs.length ck := by have := of_one (hpre ⟨2, .data⟩ (by simp) rfl _ rfl (.inl rfl)); simpa using this
        have hOK := OK.next hI
        have hown : wq.ownsRow w4.heap.size 3 1 (.slice (some ⟨b, 0, none⟩) 0 0) 0 [] := ⟨rfl, .inr ⟨b, 0, #[], rfl, hb1, hb2, by simp⟩⟩
        have hnews : ∀ j u, (xs.map (Value.int .i64))[j]? = some u → wq.cell? ((⟨gk, 0, none⟩ : Addr).add j) = some u := fun j u hu => by
          have hj : j < xs.length := by have := (List.getElem?_eq_some_iff.1 hu).1; simpa using this
          have hc := (hOK.rowAt.at (Below.refl _ _) hj).2
          rw [List.getElem?_map, List.getElem?_eq_getElem hj] at hu
          simp at hu
          subst hu
          have ea : (⟨gk, 0, none⟩ : Addr).add j = ⟨gk, j, none⟩ := by unfold Addr.add; split <;> simp_all
          rw [ea]
          simpa [hj] using hc
        refine wp_append_own _ _ _ 27 rfl w4.heap.size 3 i0 (.int .i64 0) 1 8 Try.underlying27 hi hz0 hz1 hz2 rfl (by decide) _ 0 [] g32 hown ⟨gk, 0, none⟩ xs.length ck (xs.map (Value.int .i64)) g33 (by simp) hnews (by intro u hu; simp at hu; obtain ⟨y, _, rfl⟩ := hu; rfl) (by unfold maxLen; omega) (by omega) hI.size ?_
        intro v' w' hown' hgr _
        exact ⟨_, rfl, ⟨fun _ => ⟨b, hb1, hb2, hgr⟩, fun e => absurd e (by decide), fun e => absurd rfl e⟩, at_one (by omega) ⟨v', rfl, by simpa using hown'⟩⟩
      · refine ⟨rfl, ?_⟩
        have g6 : act.tmps.getD 6 undef = .slice (some ⟨gp, 0, none⟩) 12 cp := hold 6 (free_spec (by kernel_rfl))
        refine exec_same (v := .slice (some ⟨gp, 0, none⟩) 12 cp) ?_ ⟨_, rfl, rkeep 4 (by decide) (by decide) (Below.refl _ _), at_one (by omega) rfl⟩
        simp [go_sem, Act.eval, g6]
      · refine ⟨rfl, ?_⟩
        have g35 : act.tmps.getD 35 undef = .slice (some ⟨gp, 0, none⟩) 12 cp := by have := of_one (hpre ⟨4, .data⟩ (by simp) rfl _ rfl (.inl rfl)); simpa using this
        refine exec_same (v := .pointer (some ⟨gp, 0, none⟩)) ?_ ⟨_, rfl, rkeep 5 (by decide) (by decide) (Below.refl _ _), at_one (by omega) rfl⟩
        simp [go_sem, Act.eval, g35]
      · refine ⟨rfl, ?_⟩
        have g36 : act.tmps.getD 36 undef = .pointer (some ⟨gp, 0, none⟩) := by have := of_one (hpre ⟨5, .data⟩ (by simp) rfl _ rfl (.inl rfl)); simpa using this
        have hc := (PL.next hI).c
        refine exec_same (v := .int .i64 (p0 : Int)) ?_ ⟨_, rfl, rkeep 6 (by decide) (by decide) (Below.refl _ _), at_one (by omega) rfl⟩
        simp [go_sem, Act.eval, g36, hc]
      · refine ⟨rfl, ?_⟩
        have g3 : act.tmps.getD 3 undef = .pointer (some ⟨w1.heap.size, 0, none⟩) := hold 3 (free_spec (by kernel_rfl))
        refine exec_same (v := .pointer (some ⟨w1.heap.size, 0, none⟩)) ?_ ⟨_, rfl, rkeep 7 (by decide) (by decide) (Below.refl _ _), at_one (by omega) rfl⟩
        simp [go_sem, Act.eval, g3]
      · refine ⟨rfl, ?_⟩
        have g38 : act.tmps.getD 38 undef = .pointer (some ⟨w1.heap.size, 0, none⟩) := by have := of_one (hpre ⟨7, .data⟩ (by simp) rfl _ rfl (.inl rfl)); simpa using this
        have hc := (BA.next hI).c
        refine exec_same (v := .slice a1 ns.length c1) ?_ ⟨_, rfl, rkeep 8 (by decide) (by decide) (Below.refl _ _), at_one (by omega) rfl⟩
        simp [go_sem, Act.eval, g38, hc]
      · refine ⟨rfl, ?_⟩
        have g39 : act.tmps.getD 39 undef = .slice a1 ns.length c1 := by have := of_one (hpre ⟨8, .data⟩ (by simp) rfl _ rfl (.inl rfl)); simpa using this
        refine exec_same (v := .int .i64 (ns.length : Int)) ?_ ⟨_, rfl, rkeep 9 (by decide) (by decide) (Below.refl _ _), at_one (by omega) rfl⟩
        simp [go_sem, Act.eval, g39]
      · refine ⟨rfl, ?_⟩
        have g37 : act.tmps.getD 37 undef = .int .i64 (p0 : Int) := by have := of_one (hpre ⟨6, .data⟩ (by simp) rfl _ rfl (.inl rfl)); simpa using this
        have g40 : act.tmps.getD 40 undef = .int .i64 (ns.length : Int) := by have := of_one (hpre ⟨9, .data⟩ (by simp) rfl _ rfl (.inl rfl)); simpa using this
        refine exec_same (v := .int .i64 (x : Int)) ?_ ⟨_, rfl, rkeep 10 (by decide) (by decide) (Below.refl _ _), at_one (by omega) rfl⟩
        simp [go_sem, Act.eval, g37, g40, hx0, hnn]
      · refine ⟨rfl, ?_⟩
        have g41 : act.tmps.getD 41 undef = .int .i64 (x : Int) := by have := of_one (hpre ⟨10, .data⟩ (by simp) rfl _ rfl (.inl rfl)); simpa using this
        refine exec_made (v := .slice (some ⟨wq.heap.size, 0, none⟩) 1 1) (w' := wq.alloc (.cells #[.int .i64 (x : Int)] 3)) ?_ ⟨_, rfl, rkeep 11 (by decide) (by decide) ((Below.refl _ _).alloc (Nat.le_refl _) _), at_one (by omega) ⟨_, rfl, heap_alloc_new wq _⟩⟩
        have g41' : act.tmps[41]?.getD undef = .int .i64 (x : Int) := by simpa using g41
        simp [go_sem, Act.eval, g41']
      · refine ⟨rfl, ?_⟩
        obtain ⟨v, e34, hown⟩ := of_one (hpre ⟨3, .data⟩ (by simp) rfl _ rfl (.inr rfl))
        have g34 : act.tmps.getD 34 undef = v := by simpa using e34
        obtain ⟨b, e42, hb2⟩ := of_one (hpre ⟨11, .data⟩ (by simp) rfl _ rfl (.inr rfl))
        have g42 : act.tmps.getD 42 undef = .slice (some ⟨b, 0, none⟩) 1 1 := by simpa using e42
        have hnews : ∀ j u, [Value.int .i64 (x : Int)][j]? = some u → wq.cell? ((⟨b, 0, none⟩ : Addr).add j) = some u := fun j u hu => by
          have hj : j = 0 := by have := (List.getElem?_eq_some_iff.1 hu).1; simp at this; omega
          subst hj
          simp at hu
          subst hu
          have := cell_of_row wq b 0 _ _ _ hb2
          simpa [Addr.add] using this
        refine wp_append_own _ _ _ 27 rfl w4.heap.size 3 i0 (.int .i64 0) 1 8 Try.underlying27 hi hz0 hz1 hz2 rfl (by decide) _ xs.length (xs.map (Value.int .i64)) g34 hown ⟨b, 0, none⟩ 1 1 [.int .i64 (x : Int)] g42 (by simp) hnews (by intro u hu; simp at hu; subst hu; rfl) (by unfold maxLen; omega) (by omega) hI.size ?_
        intro v' w' hown' hgr _
        refine ⟨_, rfl, ⟨fun e => absurd e (by decide), fun _ => ?_, fun _ e => absurd rfl e⟩, at_one (by omega) ⟨v', rfl, by rw [List.map_append]; exact hown'⟩⟩
        cases hv : v.ownBlock with
        | none => exact ⟨w4.heap.size, Nat.le_refl _, ⟨hgr.os, hgr.tape, hgr.output, hgr.size, fun k hk _ => hgr.block k hk (by rw [hv]; simp)⟩⟩
        | some g => rw [hv] at hgr; exact ⟨g, (World.ownsRow.lt hown g hv).1, hgr⟩
      · refine ⟨rfl, ?_⟩
        have g31 : act.tmps.getD 31 undef = .agg #[.slice a1 ns.length c1] := by have := of_one (hpre ⟨0, .data⟩ (by simp) rfl _ rfl (.inl rfl)); simpa using this
        obtain ⟨v, e43, hown⟩ := of_one (hpre ⟨12, .data⟩ (by simp) rfl _ rfl (.inl rfl))
        have hoI : OwnInt w4.heap.size wq v (xs ++ [(x : Int)]) := by unfold OwnInt; simpa using hown
        obtain ⟨aY, cY, rfl, -, hrY⟩ := hoI.row
        have g43 : act.tmps.getD 43 undef = .slice aY (xs ++ [(x : Int)]).length cY := by simpa using e43
        refine exec_call (f := 11) (args := #[.agg #[.slice a1 ns.length c1], .slice aY (xs ++ [(x : Int)]).length cY]) (by simp [go_sem, Act.eval, g31, g43]) ?_
        refine (HRE.out (xs ++ [(x : Int)]) (by simp; omega) (fun y hy => by rcases List.mem_append.1 hy with h | h; exact HXB.out y h; simp at h; omega) a1 aY c1 cY wq (OA.next hI).rowAt hrY).mono ?_
        rintro e w' ⟨v', ms, rfl, hms, hom, hb⟩
        exact ⟨_, rfl, _, rfl, rkeep 13 (by decide) (by decide) hb, at_one (by omega) ⟨v', ms, rfl, hms, hom.base hI.size⟩⟩
      · refine ⟨rfl, ?_⟩
        obtain ⟨v, ms, e44, hms, hom⟩ := of_one (hpre ⟨13, .data⟩ (by simp) rfl _ rfl (.inl rfl))
        have g44 : act.tmps.getD 44 undef = v := by simpa using e44
        refine exec_same (v := v) ?_ ⟨_, rfl, rkeep 14 (by decide) (by decide) (Below.refl _ _), at_one (by omega) ⟨v, ms, rfl, hms, hom⟩⟩
        simp [go_sem, Act.eval, g44]
    case fin =>
      intro zs w5 hzl hI hF
      obtain ⟨z0, z1, z2, z3, z4, z5, z6, z7, z8, z9, z10, z11, z12, z13, z14, rfl⟩ := list15 zs hzl
      obtain ⟨vM, ms, e7, hms, hom⟩ : ∃ v ms, [_] = [v] ∧ IsReach ns (xs ++ [(x : Int)]) ms ∧ OwnBool w4.heap.size w5 v ms := hF 14 _ rfl rfl
      obtain rfl : z14 = vM := last_is (i := 14) (by simpa using e7) (by kernel_rfl) rfl rfl (by simp)
      clear hF e7 hzl
      simp only [putAll, Act.put, List.setIfInBounds_toArray, List.set_cons_succ, List.set_cons_zero]
      obtain ⟨aM, cM, rfl, -, -⟩ := hom.row
      have OM := OwnY.made hom
      have hml : ms.length = ns.length := hms.len
      rw [hml]
      have HMO : Hid (∀ i, i < ns.length → bs.getD i false = true → ms.getD i false = true) := fun i hi hb => reach_more HIS.out hms (fun x hx => List.mem_append_left _ hx) hi hb
      clear hom hms PL
      replace OA := OA.next hI
      replace OK := OK.next hI
      replace BA := BA.next hI
      replace OH := OH.next hI
      replace HB : Hid (Below w.heap.size w w5) := HB.out.trans (hI.mono HB.out.size)
      replace HC : Hid (CodeIn w5.heap.size w5 a0 len0) := codeIn_later HC.out hI
      clear hI
      obtain ⟨bH, oH, rfl⟩ := OH.rowAt.addr (i := 0) (by omega)
      obtain ⟨bM, oM, rfl⟩ := OM.rowAt.addr (i := 0) (by omega)
      have hb : Below w5.heap.size w5 (w5.alloc (.cells #[] 3)) := (Below.refl _ _).alloc (Nat.le_refl _) _
      have HO0 : Hid ((w5.alloc (.cells #[] 3)).ownsRow w5.heap.size 3 1 (.slice (some ⟨w5.heap.size, 0, none⟩) 0 0) 0 ((allL bs 0).map (Value.int .i64))) := ⟨rfl, .inr ⟨w5.heap.size, 0, #[], rfl, Nat.le_refl _, heap_alloc_new w5 _, by simp [allL]⟩⟩
      have HKW : Hid (∀ wr, Below w5.heap.size w5 wr → OwnY w2.heap.size w3.heap.size (.slice (some ⟨bH, oH, none⟩) bs.length cH) bs wr ∧ OwnY w4.heap.size w5.heap.size (.slice (some ⟨bM, oM, none⟩) ms.length cM) ms wr) := fun wr hbr => ⟨OH.next hbr, OM.next hbr⟩
      go_wp2_with fail
      go_loopw [8, 9] (fun v iv wr => ∃ k : Nat, k ≤ ns.length ∧ iv = .int .i64 (k : Int) ∧ Hid (wr.ownsRow w5.heap.size 3 1 v (allL bs k).length ((allL bs k).map (Value.int .i64))) ∧ Hid (Below w5.heap.size w5 wr))
        (fun _ iv _ => ns.length - (intOf iv).toNat)
      case atStart => exact ⟨0, Nat.zero_le _, rfl, HO0, hb⟩
      case round =>
        clear HO0 hb
        obtain ⟨k, hk, rfl, HOW, HBL⟩ := hrel
        by_cases hlt : k < ns.length
        · have hi0 : (0 : Int) ≤ (k : Int) := by omega
          have hi1 : (k : Int) < (ns.length : Int) := by omega
          have hi2 : (k : Int) < (bs.length : Int) := by omega
          have hi3 : (k : Int) < (ms.length : Int) := by omega
          obtain ⟨hOH, hOM⟩ := HKW.out wr HBL.out
          have cH1 := (hOH.rowAt.at (Below.refl _ _) (show k < bs.length by omega)).2
          have cM1 := (hOM.rowAt.at (Below.refl _ _) (show k < ms.length by omega)).2
          have hal := allL_len bs k
          clear hOH hOM
          cases ht : bs.getD k false with
          | false =>
            rw [ht] at cH1
            have HE : Hid (allL bs (k + 1) = allL bs k) := by show _ = _; rw [allL, if_neg (by rw [ht]; simp)]
            have HOW2 : Hid (wr.ownsRow w5.heap.size 3 1 u8 (allL bs (k + 1)).length ((allL bs (k + 1)).map (Value.int .i64))) := by show World.ownsRow _ _ _ _ _ _ _; rw [HE.out]; exact HOW.out
            clear ht HOW cM1
            go_wp2
            go_roundw
            case rel => exact ⟨k + 1, by omega, by go_num, HOW2, HBL⟩
            case measure => simp [intOf] <;> omega
          | true =>
            rw [ht] at cH1
            rw [HMO.out k hlt ht] at cM1
            have HE : Hid (allL bs (k + 1) = allL bs k ++ [(k : Int)]) := by show _ = _; rw [allL, if_pos ht]
            have how := HOW.out
            clear ht HOW
            go_wp2_with (at_builtin; refine wpList_append_own _ rfl _ _ 27 rfl w5.heap.size 3 i0 (.int .i64 0) 1 8 Try.underlying27 hi hz0 hz1 hz2 rfl (by decide) _ _ _ rfl (how.alloc _) ⟨wr.heap.size, 0, none⟩ 1 1 [.int .i64 (k : Int)] rfl rfl ?c1 ?c2 ?c3 ?c4 ?c5 ?_)
            case c1 =>
              have := cell_one_new wr (.int .i64 (k : Int)) 3
              simpa using this
            case c2 => intro u hu; simp at hu; subst hu; rfl
            case c3 => unfold maxLen; omega
            case c4 => omega
            case c5 => have := HBL.out.size; simp; omega
            intro v' w6 hown' hgrow _
            have h45 : Below w5.heap.size wr w6 := below_app how (Below.refl _ _) HBL.out.size hgrow
            have HBL2 : Hid (Below w5.heap.size w5 w6) := HBL.out.trans h45
            have HOW2 : Hid (w6.ownsRow w5.heap.size 3 1 v' (allL bs (k + 1)).length ((allL bs (k + 1)).map (Value.int .i64))) := by show World.ownsRow _ _ _ _ _ _ _; rw [HE.out, List.map_append, List.length_append]; exact hown'
            clear hown' hgrow how h45 cH1 cM1
            go_wp2
            go_roundw
            case rel => exact ⟨k + 1, by omega, by go_num, HOW2, HBL2⟩
            case measure => simp [intOf] <;> omega
        · obtain rfl : k = ns.length := by omega
          have hbW := HBL.out
          clear HKW OM hml hlt hk
          replace OA := OA.next hbW
          replace OK := OK.next hbW
          replace BA := BA.next hbW
          replace OH := OH.next hbW
          replace HB : Hid (Below w.heap.size w wr) := HB.out.trans (hbW.mono HB.out.size)
          replace HC : Hid (CodeIn wr.heap.size wr a0 len0) := codeIn_later HC.out hbW
          clear hbW
          have hoA : OwnInt w5.heap.size wr u8 (allL bs ns.length) := HOW.out
          obtain ⟨aL, cL, rfl, -, hrL⟩ := hoA.row
          have hll := allL_len bs ns.length
          clear hoA HOW HBL
          have q0 := BA.c
          go_wp2_with fail
          clear q0
          refine (HRE.out (allL bs ns.length) (by omega) (fun y hy => by obtain ⟨i, h1, h2, h3⟩ := (allL_mem bs ns.length).1 hy; omega) a1 aL c1 cL wr OA.rowAt hrL).mono ?_
          rintro e w7 ⟨vG, gs, rfl, hgs, hoG, hb⟩
          obtain rfl : gs = bs := reach_again HIS.out hgs
          obtain ⟨aG, cG, rfl, -, -⟩ := hoG.row
          have OG := OwnY.made hoG
          clear hoG hgs hrL HMO HRE
          replace OA := OA.next hb
          replace OK := OK.next hb
          replace BA := BA.next hb
          replace OH := OH.next hb
          replace HB : Hid (Below w.heap.size w w7) := HB.out.trans (hb.mono HB.out.size)
          replace HC : Hid (CodeIn w7.heap.size w7 a0 len0) := codeIn_later HC.out hb
          clear hb
          have HKW : Hid (∀ wr, Below w7.heap.size w7 wr → OwnZ w.heap.size w1.heap.size (.slice (some ⟨gk, 0, none⟩) xs.length ck) xs wr ∧ OwnY w2.heap.size w3.heap.size (.slice (some ⟨bH, oH, none⟩) gs.length cH) gs wr) := fun wr hbr => ⟨OK.next hbr, OH.next hbr⟩
          go_wp2_with fail
          go_loopw [11] (fun iv wr => ∃ k : Nat, k ≤ xs.length ∧ iv = .int .i64 (k : Int) ∧ Hid (Below w7.heap.size w7 wr))
            (fun iv _ => xs.length - (intOf iv).toNat)
          case atStart => exact ⟨0, Nat.zero_le _, rfl, Below.refl _ _⟩
          case round =>
            obtain ⟨k, hk, rfl, HBL⟩ := hrel
            by_cases hlt : k < xs.length
            · have hi0 : (0 : Int) ≤ (k : Int) := by omega
              have hi1 : (k : Int) < (xs.length : Int) := by omega
              obtain ⟨hOK, hOH⟩ := HKW.out wr HBL.out
              have cK1 := (hOK.rowAt.at (Below.refl _ _) hlt).2
              rw [Nat.zero_add] at cK1
              have hmem : xs.getD k 0 ∈ xs := mem_getD hlt
              have hxr := HXB.out _ hmem
              obtain ⟨j, hj⟩ : ∃ j : Nat, xs.getD k 0 = (j : Int) := ⟨(xs.getD k 0).toNat, by omega⟩
              rw [hj] at cK1 hmem hxr
              have hj0 : (0 : Int) ≤ (j : Int) := by omega
              have hj1 : (j : Int) < (gs.length : Int) := by omega
              have cH1 := (hOH.rowAt.at (Below.refl _ _) (show j < gs.length by omega)).2
              rw [reach_known HIS.out (show j < ns.length by omega) hmem] at cH1
              clear hOK hOH hmem hj hxr
              go_wp2
              go_roundw
              case rel => exact ⟨k + 1, by omega, by go_num, HBL⟩
              case measure => simp [intOf] <;> omega
            · obtain rfl : k = xs.length := by omega
              have hbW := HBL.out
              clear HBL HKW hlt hk
              replace OA := OA.next hbW
              replace OK := OK.next hbW
              replace BA := BA.next hbW
              replace OH := OH.next hbW
              replace OG := OG.next hbW
              replace HB : Hid (Below w.heap.size w wr) := HB.out.trans (hbW.mono HB.out.size)
              replace HC : Hid (CodeIn wr.heap.size wr a0 len0) := codeIn_later HC.out hbW
              clear hbW
              generalize wr = w8 at OA OK BA OH OG HB HC ⊢
              obtain ⟨bA, oA, rfl⟩ := OA.rowAt.addr (i := 0) (by omega)
              have HKW : Hid (∀ wr, Below w8.heap.size w8 wr → Var w1.heap.size (.slice (some ⟨bA, oA, none⟩) ns.length c1) wr ∧ Own w.heap.size w1.heap.size (.slice (some ⟨bA, oA, none⟩) ns.length c1) ns wr ∧ OwnZ w.heap.size w1.heap.size (.slice (some ⟨gk, 0, none⟩) xs.length ck) xs wr ∧ OwnY w2.heap.size w3.heap.size (.slice (some ⟨bH, oH, none⟩) gs.length cH) gs wr) := fun wr hbr => ⟨BA.next hbr, OA.next hbr, OK.next hbr, OH.next hbr⟩
              go_wp2_with fail
              go_loopw [12] (fun iv wr => ∃ k : Nat, k ≤ ns.length ∧ iv = .int .i64 (k : Int) ∧ Hid (Below w8.heap.size w8 wr))
                (fun iv _ => ns.length - (intOf iv).toNat)
              case atStart => exact ⟨0, Nat.zero_le _, rfl, Below.refl _ _⟩
              case round =>
                obtain ⟨k, hk, rfl, HBL⟩ := hrel
                obtain ⟨hBA, hOA, hOK, hOH⟩ := HKW.out wr HBL.out
                have cA := hBA.c
                by_cases hlt : k < ns.length
                · rename_i qB aB qC kC aC kD aD
                  clear aB aC aD
                  have hi0 : (0 : Int) ≤ (k : Int) := by omega
                  have hi1 : (k : Int) < (ns.length : Int) := by omega
                  obtain ⟨-, c0, c1', c2, c3⟩ := hOA.rowAt.at (Below.refl _ _) hlt
                  have hnt := nodeB_true (all_at HALL.out hlt).1
                  have hsl := reach_seal HALL.out HIS.out hlt
                  have hpr := reach_pair HALL.out HIS.out hlt
                  have hha := reach_hash HALL.out HIS.out hlt
                  obtain ⟨xk, xn, xa, xb, hx⟩ : ∃ xk xn xa xb, ns.getD k Nd.zero = ⟨xk, xn, xa, xb⟩ := ⟨_, _, _, _, rfl⟩
                  rw [hx] at c0 c1' c2 c3 hnt hsl hpr hha
                  simp only at c0 c1' c2 c3 hnt hsl hpr hha
                  clear hx
                  have hbn : Below w8.heap.size w8 (wr.alloc (.cells #[.int .i64 xk, .int .i64 xn, .int .i64 xa, .int .i64 xb] 34)) := HBL.out.alloc HBL.out.size _
                  obtain ⟨hBA, hOA, hOK, hOH⟩ := HKW.out _ hbn
                  have cH1 := (hOH.rowAt.at (Below.refl _ _) (show k < gs.length by omega)).2
                  have HCB : Hid (∀ i, i < ns.length → (wr.alloc (.cells #[.int .i64 xk, .int .i64 xn, .int .i64 xa, .int .i64 xb] 34)).cell? ⟨bH, oH + i, none⟩ = some (.bool (gs.getD i false))) := fun i hi => (hOH.rowAt.at (Below.refl _ _) (show i < gs.length by omega)).2
                  have HDK : Hid _ := HDE.out gs HIS.out (some ⟨bA, oA, none⟩) (some ⟨gk, 0, none⟩) c1 ck k
                  obtain ⟨t0, ht0⟩ : ∃ t, gs.getD k false = t := ⟨_, rfl⟩
                  rw [ht0] at cH1 hsl hpr hha HDK
                  obtain ⟨S, hS0, hNE, q0, q1, HK⟩ : ∃ S : World → Prop, S (wr.alloc (.cells #[.int .i64 xk, .int .i64 xn, .int .i64 xa, .int .i64 xb] 34)).drew ∧ Nonempty (Hw S) ∧ (∀ s : Hw S, s.w.cell? ⟨w1.heap.size, 0, none⟩ = some (.slice (some ⟨bA, oA, none⟩) ns.length c1)) ∧ (∀ s : Hw S, s.w.cell? ⟨bH, oH + k, none⟩ = some (.bool t0)) ∧ Hid ((∀ (s : Hw S) w', Below s.w.heap.size s.w w' → S w') ∧ (∀ s : Hw S, RowN s.w.heap.size s.w (some ⟨bA, oA, none⟩) ns ∧ RowI s.w.heap.size s.w (some ⟨gk, 0, none⟩) xs) ∧ (∀ w', S w' → Below w8.heap.size w8 w')) :=
                    ⟨fun w' => Below w8.heap.size w8 w', hbn.drew, ⟨⟨_, hbn⟩⟩, fun s => (HKW.out s.w s.ok).1.c, fun s => by rw [← ht0]; exact ((HKW.out s.w s.ok).2.2.2.rowAt.at (Below.refl _ _) (show k < gs.length by omega)).2, ⟨fun s w' hb => s.ok.trans (hb.mono s.ok.size), fun s => ⟨(HKW.out s.w s.ok).2.1.rowAt, (HKW.out s.w s.ok).2.2.1.rowAt⟩, fun w' h => h⟩⟩
                  clear hBA hOA hOK hOH hbn HBL ht0 HC HB OA OK BA OH OG HALL HXB HDE HIS HKW hll hnz hnn hi hz0 hz1 hz2 hx0 hx1
                  have hund : Go.yielded.match_1 (motive := fun _ => Option Bool) (some undef) (fun b => some b) (fun _ => none) = none := rfl
                  have n0 : (wr.alloc (.cells #[.int .i64 xk, .int .i64 xn, .int .i64 xa, .int .i64 xb] 34)).cell? ⟨wr.heap.size, 0, none⟩ = some (.int .i64 xk) := (cell_of_row _ _ 0 _ _ _ (heap_alloc_new wr _)).trans rfl
                  have n2 : (wr.alloc (.cells #[.int .i64 xk, .int .i64 xn, .int .i64 xa, .int .i64 xb] 34)).cell? ⟨wr.heap.size, 2, none⟩ = some (.int .i64 xa) := (cell_of_row _ _ 2 _ _ _ (heap_alloc_new wr _)).trans rfl
                  have n3 : (wr.alloc (.cells #[.int .i64 xk, .int .i64 xn, .int .i64 xa, .int .i64 xb] 34)).cell? ⟨wr.heap.size, 3, none⟩ = some (.int .i64 xb) := (cell_of_row _ _ 3 _ _ _ (heap_alloc_new wr _)).trans rfl
                  by_cases hkk : xk = 5 ∨ xk = 2 ∨ xk = 3
                  · have hab : 0 ≤ xa ∧ xa < (ns.length : Int) ∧ 0 ≤ xb ∧ xb < (ns.length : Int) := by
                      rcases hnt with h | h | h
                      · omega
                      · omega
                      · omega
                    obtain ⟨i, rfl⟩ := Int.eq_ofNat_of_zero_le hab.1
                    obtain ⟨j, rfl⟩ := Int.eq_ofNat_of_zero_le hab.2.2.1
                    have hu0 : (0 : Int) ≤ (i : Int) := by omega
                    have hu1 : (i : Int) < (ns.length : Int) := by omega
                    have hv0 : (0 : Int) ≤ (j : Int) := by omega
                    have hv1 : (j : Int) < (ns.length : Int) := by omega
                    have cI := HCB.out i (by omega)
                    have cJ := HCB.out j (by omega)
                    simp only [Int.toNat_natCast] at hsl hpr hha
                    generalize gs.getD i false = t1 at cI hsl hpr hha
                    generalize gs.getD j false = t2 at cJ hsl hpr hha
                    clear hnt hab HCB
                    rcases hkk with rfl | rfl | rfl
                    · have hfn : t0 = true → t1 = true → t2 = true := hsl rfl
                      clear hsl hpr hha
                      cases t0 with
                      | false =>
                        clear hfn
                        repeat (first | go_values | go_skip | go_guarded | (with_reducible refine wp_region_runs (id := 25) ?vs1 ?runs1 ?rest1) | go_step | go_upon | go_back)
                        case vs1 => exact (.slice (some ⟨bH, oH, none⟩) ns.length cH :: .int .i64 (k : Int) :: .pointer (some ⟨bH, oH + k, none⟩) :: .bool false :: .bool false :: undef :: undef :: undef :: .bool false :: .bool false :: undef :: undef :: undef :: undef :: undef :: .bool false :: .bool false :: undef :: undef :: undef :: undef :: undef :: undef :: .bool false :: .bool false :: .pointer (some ⟨wr.heap.size, 0, none⟩) :: .int .i64 5 :: .bool false :: .bool false :: undef :: undef :: undef :: undef :: .bool false :: .bool false :: undef :: undef :: undef :: undef :: undef :: undef :: undef :: undef :: undef :: undef :: undef :: undef :: undef :: .bool false :: .bool false :: .bool false :: .pointer (some ⟨wr.heap.size, 0, none⟩) :: .int .i64 5 :: .bool false :: .bool false :: undef :: undef :: undef :: undef :: undef :: .bool false :: .bool false :: undef :: undef :: undef :: undef :: undef :: .bool false :: .bool false :: [])
                        case runs1 =>
                          simp only [List.append]
                          with_reducible refine runs_do (by kernel_rfl) (run_move (by kernel_rfl)) ?_
                          with_reducible refine runs_do (by kernel_rfl) (run_move (by kernel_rfl)) ?_
                          with_reducible refine runs_do (by kernel_rfl) (run_idxBool (n := ns.length) (c := cH) (by kernel_rfl) (by kernel_rfl) (by omega)) ?_
                          with_reducible refine runs_do (by kernel_rfl) (run_loadBool (by kernel_rfl) cH1) ?_
                          with_reducible refine runs_do (by kernel_rfl) (run_move (by kernel_rfl)) ?_
                          with_reducible refine runs_skip (by kernel_rfl) ?_
                          with_reducible refine runs_skip (by kernel_rfl) ?_
                          with_reducible refine runs_skip (by kernel_rfl) ?_
                          with_reducible refine runs_do (by kernel_rfl) (run_pick (b := false) (by kernel_rfl) (by kernel_rfl)) ?_
                          with_reducible refine runs_do (by kernel_rfl) (run_move (by kernel_rfl)) ?_
                          with_reducible refine runs_skip (by kernel_rfl) ?_
                          with_reducible refine runs_skip (by kernel_rfl) ?_
                          with_reducible refine runs_skip (by kernel_rfl) ?_
                          with_reducible refine runs_skip (by kernel_rfl) ?_
                          with_reducible refine runs_skip (by kernel_rfl) ?_
                          with_reducible refine runs_do (by kernel_rfl) (run_pick (b := false) (by kernel_rfl) (by kernel_rfl)) ?_
                          with_reducible refine runs_do (by kernel_rfl) (run_move (by kernel_rfl)) ?_
                          with_reducible refine runs_skip (by kernel_rfl) ?_
                          with_reducible refine runs_skip (by kernel_rfl) ?_
                          with_reducible refine runs_skip (by kernel_rfl) ?_
                          with_reducible refine runs_skip (by kernel_rfl) ?_
                          with_reducible refine runs_skip (by kernel_rfl) ?_
                          with_reducible refine runs_skip (by kernel_rfl) ?_
                          with_reducible refine runs_do (by kernel_rfl) (run_pick (b := false) (by kernel_rfl) (by kernel_rfl)) ?_
                          with_reducible refine runs_do (by kernel_rfl) (run_move (by kernel_rfl)) ?_
                          with_reducible refine runs_do (by kernel_rfl) (run_fieldNode (by decide) (by kernel_rfl)) ?_
                          with_reducible refine runs_do (by kernel_rfl) (run_loadInt (by kernel_rfl) n0) ?_
                          with_reducible refine runs_do (by kernel_rfl) (run_eqlInt (x := 5) (c := 2) (b := false) (by kernel_rfl) (by decide)) ?_
                          with_reducible refine runs_do (by kernel_rfl) (run_move (by kernel_rfl)) ?_
                          with_reducible refine runs_skip (by kernel_rfl) ?_
                          with_reducible refine runs_skip (by kernel_rfl) ?_
                          with_reducible refine runs_skip (by kernel_rfl) ?_
                          with_reducible refine runs_skip (by kernel_rfl) ?_
                          with_reducible refine runs_do (by kernel_rfl) (run_pick (b := false) (by kernel_rfl) (by kernel_rfl)) ?_
                          with_reducible refine runs_do (by kernel_rfl) (run_move (by kernel_rfl)) ?_
                          with_reducible refine runs_skip (by kernel_rfl) ?_
                          with_reducible refine runs_skip (by kernel_rfl) ?_
                          with_reducible refine runs_skip (by kernel_rfl) ?_
                          with_reducible refine runs_skip (by kernel_rfl) ?_
                          with_reducible refine runs_skip (by kernel_rfl) ?_
                          with_reducible refine runs_skip (by kernel_rfl) ?_
                          with_reducible refine runs_skip (by kernel_rfl) ?_
                          with_reducible refine runs_skip (by kernel_rfl) ?_
                          with_reducible refine runs_skip (by kernel_rfl) ?_
                          with_reducible refine runs_skip (by kernel_rfl) ?_
                          with_reducible refine runs_skip (by kernel_rfl) ?_
                          with_reducible refine runs_skip (by kernel_rfl) ?_
                          with_reducible refine runs_skip (by kernel_rfl) ?_
                          with_reducible refine runs_do (by kernel_rfl) (run_pick (b := false) (by kernel_rfl) (by kernel_rfl)) ?_
                          with_reducible refine runs_do (by kernel_rfl) (run_pick (b := false) (by kernel_rfl) (by kernel_rfl)) ?_
                          with_reducible refine runs_do (by kernel_rfl) (run_move (by kernel_rfl)) ?_
                          with_reducible refine runs_do (by kernel_rfl) (run_fieldNode (by decide) (by kernel_rfl)) ?_
                          with_reducible refine runs_do (by kernel_rfl) (run_loadInt (by kernel_rfl) n0) ?_
                          with_reducible refine runs_do (by kernel_rfl) (run_eqlInt (x := 5) (c := 3) (b := false) (by kernel_rfl) (by decide)) ?_
                          with_reducible refine runs_do (by kernel_rfl) (run_move (by kernel_rfl)) ?_
                          with_reducible refine runs_skip (by kernel_rfl) ?_
                          with_reducible refine runs_skip (by kernel_rfl) ?_
                          with_reducible refine runs_skip (by kernel_rfl) ?_
                          with_reducible refine runs_skip (by kernel_rfl) ?_
                          with_reducible refine runs_skip (by kernel_rfl) ?_
                          with_reducible refine runs_do (by kernel_rfl) (run_pick (b := false) (by kernel_rfl) (by kernel_rfl)) ?_
                          with_reducible refine runs_do (by kernel_rfl) (run_move (by kernel_rfl)) ?_
                          with_reducible refine runs_skip (by kernel_rfl) ?_
                          with_reducible refine runs_skip (by kernel_rfl) ?_
                          with_reducible refine runs_skip (by kernel_rfl) ?_
                          with_reducible refine runs_skip (by kernel_rfl) ?_
                          with_reducible refine runs_skip (by kernel_rfl) ?_
                          with_reducible refine runs_do (by kernel_rfl) (run_pick (b := false) (by kernel_rfl) (by kernel_rfl)) ?_
                          with_reducible refine runs_do (by kernel_rfl) (run_pick (b := false) (by kernel_rfl) (by kernel_rfl)) ?_
                          exact runs_nil
                        clear n0 n2 n3
                        simp only [List.append, putAll, Act.put, List.setIfInBounds_toArray, List.set_cons_succ, List.set_cons_zero]
                        go_wp2_with fail
                        refine wp_region_held (S := S) (by kernel_rfl) (by kernel_rfl) hS0 ?_
                        repeat (go_big_quiet_step ((go_at_call 13; exact Calls.held (HDK.out _ hlt (HK.out.2.1 _).1 (HK.out.2.1 _).2) (HK.out.1 _))))
                        refine wpQuiet_nil ?_
                        rintro _ ⟨sw, rfl⟩
                        have HBL2 : Hid _ := HK.out.2.2 _ sw.ok
                        clear HK q0 q1 hS0
                        go_wp2
                        go_roundw
                        case rel => exact ⟨k + 1, by omega, by go_num, HBL2⟩
                        case measure => simp [intOf] <;> omega
                      | true =>
                        cases t1 with
                        | false =>
                          clear hfn cJ
                          repeat (first | go_values | go_skip | go_guarded | (with_reducible refine wp_region_runs (id := 25) ?vs2 ?runs2 ?rest2) | go_step | go_upon | go_back)
                          case vs2 => exact (.slice (some ⟨bH, oH, none⟩) ns.length cH :: .int .i64 (k : Int) :: .pointer (some ⟨bH, oH + k, none⟩) :: .bool true :: .bool true :: .pointer (some ⟨wr.heap.size, 0, none⟩) :: .int .i64 5 :: .bool true :: .bool true :: .bool true :: .slice (some ⟨bH, oH, none⟩) ns.length cH :: .pointer (some ⟨wr.heap.size, 2, none⟩) :: .int .i64 (i : Int) :: .pointer (some ⟨bH, oH + i, none⟩) :: .bool false :: .bool false :: .bool false :: undef :: undef :: undef :: undef :: undef :: undef :: .bool false :: .bool false :: .pointer (some ⟨wr.heap.size, 0, none⟩) :: .int .i64 5 :: .bool false :: .bool false :: undef :: undef :: undef :: undef :: .bool false :: .bool false :: undef :: undef :: undef :: undef :: undef :: undef :: undef :: undef :: undef :: undef :: undef :: undef :: undef :: .bool false :: .bool false :: .bool false :: .pointer (some ⟨wr.heap.size, 0, none⟩) :: .int .i64 5 :: .bool false :: .bool false :: undef :: undef :: undef :: undef :: undef :: .bool false :: .bool false :: undef :: undef :: undef :: undef :: undef :: .bool false :: .bool false :: [])
                          case runs2 =>
                            simp only [List.append]
                            with_reducible refine runs_do (by kernel_rfl) (run_move (by kernel_rfl)) ?_
                            with_reducible refine runs_do (by kernel_rfl) (run_move (by kernel_rfl)) ?_
                            with_reducible refine runs_do (by kernel_rfl) (run_idxBool (n := ns.length) (c := cH) (by kernel_rfl) (by kernel_rfl) (by omega)) ?_
                            with_reducible refine runs_do (by kernel_rfl) (run_loadBool (by kernel_rfl) cH1) ?_
                            with_reducible refine runs_do (by kernel_rfl) (run_move (by kernel_rfl)) ?_
                            with_reducible refine runs_do (by kernel_rfl) (run_fieldNode (by decide) (by kernel_rfl)) ?_
                            with_reducible refine runs_do (by kernel_rfl) (run_loadInt (by kernel_rfl) n0) ?_
                            with_reducible refine runs_do (by kernel_rfl) (run_eqlInt (x := 5) (c := 5) (b := true) (by kernel_rfl) (by decide)) ?_
                            with_reducible refine runs_do (by kernel_rfl) (run_pick (b := true) (by kernel_rfl) (by kernel_rfl)) ?_
                            with_reducible refine runs_do (by kernel_rfl) (run_move (by kernel_rfl)) ?_
                            with_reducible refine runs_do (by kernel_rfl) (run_move (by kernel_rfl)) ?_
                            with_reducible refine runs_do (by kernel_rfl) (run_fieldNode (by decide) (by kernel_rfl)) ?_
                            with_reducible refine runs_do (by kernel_rfl) (run_loadInt (by kernel_rfl) n2) ?_
                            with_reducible refine runs_do (by kernel_rfl) (run_idxBool (n := ns.length) (c := cH) (by kernel_rfl) (by kernel_rfl) (by omega)) ?_
                            with_reducible refine runs_do (by kernel_rfl) (run_loadBool (by kernel_rfl) cI) ?_
                            with_reducible refine runs_do (by kernel_rfl) (run_pick (b := true) (by kernel_rfl) (by kernel_rfl)) ?_
                            with_reducible refine runs_do (by kernel_rfl) (run_move (by kernel_rfl)) ?_
                            with_reducible refine runs_skip (by kernel_rfl) ?_
                            with_reducible refine runs_skip (by kernel_rfl) ?_
                            with_reducible refine runs_skip (by kernel_rfl) ?_
                            with_reducible refine runs_skip (by kernel_rfl) ?_
                            with_reducible refine runs_skip (by kernel_rfl) ?_
                            with_reducible refine runs_skip (by kernel_rfl) ?_
                            with_reducible refine runs_do (by kernel_rfl) (run_pick (b := false) (by kernel_rfl) (by kernel_rfl)) ?_
                            with_reducible refine runs_do (by kernel_rfl) (run_move (by kernel_rfl)) ?_
                            with_reducible refine runs_do (by kernel_rfl) (run_fieldNode (by decide) (by kernel_rfl)) ?_
                            with_reducible refine runs_do (by kernel_rfl) (run_loadInt (by kernel_rfl) n0) ?_
                            with_reducible refine runs_do (by kernel_rfl) (run_eqlInt (x := 5) (c := 2) (b := false) (by kernel_rfl) (by decide)) ?_
                            with_reducible refine runs_do (by kernel_rfl) (run_move (by kernel_rfl)) ?_
                            with_reducible refine runs_skip (by kernel_rfl) ?_
                            with_reducible refine runs_skip (by kernel_rfl) ?_
                            with_reducible refine runs_skip (by kernel_rfl) ?_
                            with_reducible refine runs_skip (by kernel_rfl) ?_
                            with_reducible refine runs_do (by kernel_rfl) (run_pick (b := false) (by kernel_rfl) (by kernel_rfl)) ?_
                            with_reducible refine runs_do (by kernel_rfl) (run_move (by kernel_rfl)) ?_
                            with_reducible refine runs_skip (by kernel_rfl) ?_
                            with_reducible refine runs_skip (by kernel_rfl) ?_
                            with_reducible refine runs_skip (by kernel_rfl) ?_
                            with_reducible refine runs_skip (by kernel_rfl) ?_
                            with_reducible refine runs_skip (by kernel_rfl) ?_
                            with_reducible refine runs_skip (by kernel_rfl) ?_
                            with_reducible refine runs_skip (by kernel_rfl) ?_
                            with_reducible refine runs_skip (by kernel_rfl) ?_
                            with_reducible refine runs_skip (by kernel_rfl) ?_
                            with_reducible refine runs_skip (by kernel_rfl) ?_
                            with_reducible refine runs_skip (by kernel_rfl) ?_
                            with_reducible refine runs_skip (by kernel_rfl) ?_
                            with_reducible refine runs_skip (by kernel_rfl) ?_
                            with_reducible refine runs_do (by kernel_rfl) (run_pick (b := false) (by kernel_rfl) (by kernel_rfl)) ?_
                            with_reducible refine runs_do (by kernel_rfl) (run_pick (b := false) (by kernel_rfl) (by kernel_rfl)) ?_
                            with_reducible refine runs_do (by kernel_rfl) (run_move (by kernel_rfl)) ?_
                            with_reducible refine runs_do (by kernel_rfl) (run_fieldNode (by decide) (by kernel_rfl)) ?_
                            with_reducible refine runs_do (by kernel_rfl) (run_loadInt (by kernel_rfl) n0) ?_
                            with_reducible refine runs_do (by kernel_rfl) (run_eqlInt (x := 5) (c := 3) (b := false) (by kernel_rfl) (by decide)) ?_
                            with_reducible refine runs_do (by kernel_rfl) (run_move (by kernel_rfl)) ?_
                            with_reducible refine runs_skip (by kernel_rfl) ?_
                            with_reducible refine runs_skip (by kernel_rfl) ?_
                            with_reducible refine runs_skip (by kernel_rfl) ?_
                            with_reducible refine runs_skip (by kernel_rfl) ?_
                            with_reducible refine runs_skip (by kernel_rfl) ?_
                            with_reducible refine runs_do (by kernel_rfl) (run_pick (b := false) (by kernel_rfl) (by kernel_rfl)) ?_
                            with_reducible refine runs_do (by kernel_rfl) (run_move (by kernel_rfl)) ?_
                            with_reducible refine runs_skip (by kernel_rfl) ?_
                            with_reducible refine runs_skip (by kernel_rfl) ?_
                            with_reducible refine runs_skip (by kernel_rfl) ?_
                            with_reducible refine runs_skip (by kernel_rfl) ?_
                            with_reducible refine runs_skip (by kernel_rfl) ?_
                            with_reducible refine runs_do (by kernel_rfl) (run_pick (b := false) (by kernel_rfl) (by kernel_rfl)) ?_
                            with_reducible refine runs_do (by kernel_rfl) (run_pick (b := false) (by kernel_rfl) (by kernel_rfl)) ?_
                            exact runs_nil
                          clear n0 n2 n3
                          simp only [List.append, putAll, Act.put, List.setIfInBounds_toArray, List.set_cons_succ, List.set_cons_zero]
                          go_wp2_with fail
                          refine wp_region_held (S := S) (by kernel_rfl) (by kernel_rfl) hS0 ?_
                          repeat (go_big_quiet_step ((go_at_call 13; exact Calls.held (HDK.out _ hlt (HK.out.2.1 _).1 (HK.out.2.1 _).2) (HK.out.1 _))))
                          refine wpQuiet_nil ?_
                          rintro _ ⟨sw, rfl⟩
                          have HBL2 : Hid _ := HK.out.2.2 _ sw.ok
                          clear HK q0 q1 hS0
                          go_wp2
                          go_roundw
                          case rel => exact ⟨k + 1, by omega, by go_num, HBL2⟩
                          case measure => simp [intOf] <;> omega
                        | true =>
                          obtain rfl := hfn rfl rfl
                          clear hfn
                          repeat (first | go_values | go_skip | go_guarded | (with_reducible refine wp_region_runs (id := 25) ?vs3 ?runs3 ?rest3) | go_step | go_upon | go_back)
                          case vs3 => exact (.slice (some ⟨bH, oH, none⟩) ns.length cH :: .int .i64 (k : Int) :: .pointer (some ⟨bH, oH + k, none⟩) :: .bool true :: .bool true :: .pointer (some ⟨wr.heap.size, 0, none⟩) :: .int .i64 5 :: .bool true :: .bool true :: .bool true :: .slice (some ⟨bH, oH, none⟩) ns.length cH :: .pointer (some ⟨wr.heap.size, 2, none⟩) :: .int .i64 (i : Int) :: .pointer (some ⟨bH, oH + i, none⟩) :: .bool true :: .bool true :: .bool true :: .slice (some ⟨bH, oH, none⟩) ns.length cH :: .pointer (some ⟨wr.heap.size, 3, none⟩) :: .int .i64 (j : Int) :: .pointer (some ⟨bH, oH + j, none⟩) :: .bool true :: .bool false :: .bool false :: .bool false :: .pointer (some ⟨wr.heap.size, 0, none⟩) :: .int .i64 5 :: .bool false :: .bool false :: undef :: undef :: undef :: undef :: .bool false :: .bool false :: undef :: undef :: undef :: undef :: undef :: undef :: undef :: undef :: undef :: undef :: undef :: undef :: undef :: .bool false :: .bool false :: .bool false :: .pointer (some ⟨wr.heap.size, 0, none⟩) :: .int .i64 5 :: .bool false :: .bool false :: undef :: undef :: undef :: undef :: undef :: .bool false :: .bool false :: undef :: undef :: undef :: undef :: undef :: .bool false :: .bool false :: [])
                          case runs3 =>
                            simp only [List.append]
                            with_reducible refine runs_do (by kernel_rfl) (run_move (by kernel_rfl)) ?_
                            with_reducible refine runs_do (by kernel_rfl) (run_move (by kernel_rfl)) ?_
                            with_reducible refine runs_do (by kernel_rfl) (run_idxBool (n := ns.length) (c := cH) (by kernel_rfl) (by kernel_rfl) (by omega)) ?_
                            with_reducible refine runs_do (by kernel_rfl) (run_loadBool (by kernel_rfl) cH1) ?_
                            with_reducible refine runs_do (by kernel_rfl) (run_move (by kernel_rfl)) ?_
                            with_reducible refine runs_do (by kernel_rfl) (run_fieldNode (by decide) (by kernel_rfl)) ?_
                            with_reducible refine runs_do (by kernel_rfl) (run_loadInt (by kernel_rfl) n0) ?_
                            with_reducible refine runs_do (by kernel_rfl) (run_eqlInt (x := 5) (c := 5) (b := true) (by kernel_rfl) (by decide)) ?_
                            with_reducible refine runs_do (by kernel_rfl) (run_pick (b := true) (by kernel_rfl) (by kernel_rfl)) ?_
                            with_reducible refine runs_do (by kernel_rfl) (run_move (by kernel_rfl)) ?_
                            with_reducible refine runs_do (by kernel_rfl) (run_move (by kernel_rfl)) ?_
                            with_reducible refine runs_do (by kernel_rfl) (run_fieldNode (by decide) (by kernel_rfl)) ?_
                            with_reducible refine runs_do (by kernel_rfl) (run_loadInt (by kernel_rfl) n2) ?_
                            with_reducible refine runs_do (by kernel_rfl) (run_idxBool (n := ns.length) (c := cH) (by kernel_rfl) (by kernel_rfl) (by omega)) ?_
                            with_reducible refine runs_do (by kernel_rfl) (run_loadBool (by kernel_rfl) cI) ?_
                            with_reducible refine runs_do (by kernel_rfl) (run_pick (b := true) (by kernel_rfl) (by kernel_rfl)) ?_
                            with_reducible refine runs_do (by kernel_rfl) (run_move (by kernel_rfl)) ?_
                            with_reducible refine runs_do (by kernel_rfl) (run_move (by kernel_rfl)) ?_
                            with_reducible refine runs_do (by kernel_rfl) (run_fieldNode (by decide) (by kernel_rfl)) ?_
                            with_reducible refine runs_do (by kernel_rfl) (run_loadInt (by kernel_rfl) n3) ?_
                            with_reducible refine runs_do (by kernel_rfl) (run_idxBool (n := ns.length) (c := cH) (by kernel_rfl) (by kernel_rfl) (by omega)) ?_
                            with_reducible refine runs_do (by kernel_rfl) (run_loadBool (by kernel_rfl) cJ) ?_
                            with_reducible refine runs_do (by kernel_rfl) (run_not (b := true) (by kernel_rfl)) ?_
                            with_reducible refine runs_do (by kernel_rfl) (run_pick (b := true) (by kernel_rfl) (by kernel_rfl)) ?_
                            with_reducible refine runs_do (by kernel_rfl) (run_move (by kernel_rfl)) ?_
                            with_reducible refine runs_do (by kernel_rfl) (run_fieldNode (by decide) (by kernel_rfl)) ?_
                            with_reducible refine runs_do (by kernel_rfl) (run_loadInt (by kernel_rfl) n0) ?_
                            with_reducible refine runs_do (by kernel_rfl) (run_eqlInt (x := 5) (c := 2) (b := false) (by kernel_rfl) (by decide)) ?_
                            with_reducible refine runs_do (by kernel_rfl) (run_move (by kernel_rfl)) ?_
                            with_reducible refine runs_skip (by kernel_rfl) ?_
                            with_reducible refine runs_skip (by kernel_rfl) ?_
                            with_reducible refine runs_skip (by kernel_rfl) ?_
                            with_reducible refine runs_skip (by kernel_rfl) ?_
                            with_reducible refine runs_do (by kernel_rfl) (run_pick (b := false) (by kernel_rfl) (by kernel_rfl)) ?_
                            with_reducible refine runs_do (by kernel_rfl) (run_move (by kernel_rfl)) ?_
                            with_reducible refine runs_skip (by kernel_rfl) ?_
                            with_reducible refine runs_skip (by kernel_rfl) ?_
                            with_reducible refine runs_skip (by kernel_rfl) ?_
                            with_reducible refine runs_skip (by kernel_rfl) ?_
                            with_reducible refine runs_skip (by kernel_rfl) ?_
                            with_reducible refine runs_skip (by kernel_rfl) ?_
                            with_reducible refine runs_skip (by kernel_rfl) ?_
                            with_reducible refine runs_skip (by kernel_rfl) ?_
                            with_reducible refine runs_skip (by kernel_rfl) ?_
                            with_reducible refine runs_skip (by kernel_rfl) ?_
                            with_reducible refine runs_skip (by kernel_rfl) ?_
                            with_reducible refine runs_skip (by kernel_rfl) ?_
                            with_reducible refine runs_skip (by kernel_rfl) ?_
                            with_reducible refine runs_do (by kernel_rfl) (run_pick (b := false) (by kernel_rfl) (by kernel_rfl)) ?_
                            with_reducible refine runs_do (by kernel_rfl) (run_pick (b := false) (by kernel_rfl) (by kernel_rfl)) ?_
                            with_reducible refine runs_do (by kernel_rfl) (run_move (by kernel_rfl)) ?_
                            with_reducible refine runs_do (by kernel_rfl) (run_fieldNode (by decide) (by kernel_rfl)) ?_
                            with_reducible refine runs_do (by kernel_rfl) (run_loadInt (by kernel_rfl) n0) ?_
                            with_reducible refine runs_do (by kernel_rfl) (run_eqlInt (x := 5) (c := 3) (b := false) (by kernel_rfl) (by decide)) ?_
                            with_reducible refine runs_do (by kernel_rfl) (run_move (by kernel_rfl)) ?_
                            with_reducible refine runs_skip (by kernel_rfl) ?_
                            with_reducible refine runs_skip (by kernel_rfl) ?_
                            with_reducible refine runs_skip (by kernel_rfl) ?_
                            with_reducible refine runs_skip (by kernel_rfl) ?_
                            with_reducible refine runs_skip (by kernel_rfl) ?_
                            with_reducible refine runs_do (by kernel_rfl) (run_pick (b := false) (by kernel_rfl) (by kernel_rfl)) ?_
                            with_reducible refine runs_do (by kernel_rfl) (run_move (by kernel_rfl)) ?_
                            with_reducible refine runs_skip (by kernel_rfl) ?_
                            with_reducible refine runs_skip (by kernel_rfl) ?_
                            with_reducible refine runs_skip (by kernel_rfl) ?_
                            with_reducible refine runs_skip (by kernel_rfl) ?_
                            with_reducible refine runs_skip (by kernel_rfl) ?_
                            with_reducible refine runs_do (by kernel_rfl) (run_pick (b := false) (by kernel_rfl) (by kernel_rfl)) ?_
                            with_reducible refine runs_do (by kernel_rfl) (run_pick (b := false) (by kernel_rfl) (by kernel_rfl)) ?_
                            exact runs_nil
                          clear n0 n2 n3
                          simp only [List.append, putAll, Act.put, List.setIfInBounds_toArray, List.set_cons_succ, List.set_cons_zero]
                          go_wp2_with fail
                          refine wp_region_held (S := S) (by kernel_rfl) (by kernel_rfl) hS0 ?_
                          repeat (go_big_quiet_step ((go_at_call 13; exact Calls.held (HDK.out _ hlt (HK.out.2.1 _).1 (HK.out.2.1 _).2) (HK.out.1 _))))
                          refine wpQuiet_nil ?_
                          rintro _ ⟨sw, rfl⟩
                          have HBL2 : Hid _ := HK.out.2.2 _ sw.ok
                          clear HK q0 q1 hS0
                          go_wp2
                          go_roundw
                          case rel => exact ⟨k + 1, by omega, by go_num, HBL2⟩
                          case measure => simp [intOf] <;> omega
                    · have hfn : t0 = true → t1 = true ∧ t2 = true := hpr rfl
                      clear hsl hpr hha
                      cases t0 with
                      | false =>
                        clear hfn
                        repeat (first | go_values | go_skip | go_guarded | (with_reducible refine wp_region_runs (id := 25) ?vs4 ?runs4 ?rest4) | go_step | go_upon | go_back)
                        case vs4 => exact (.slice (some ⟨bH, oH, none⟩) ns.length cH :: .int .i64 (k : Int) :: .pointer (some ⟨bH, oH + k, none⟩) :: .bool false :: .bool false :: undef :: undef :: undef :: .bool false :: .bool false :: undef :: undef :: undef :: undef :: undef :: .bool false :: .bool false :: undef :: undef :: undef :: undef :: undef :: undef :: .bool false :: .bool false :: .pointer (some ⟨wr.heap.size, 0, none⟩) :: .int .i64 2 :: .bool true :: .bool true :: .slice (some ⟨bH, oH, none⟩) ns.length cH :: .int .i64 (k : Int) :: .pointer (some ⟨bH, oH + k, none⟩) :: .bool false :: .bool false :: .bool false :: undef :: undef :: undef :: undef :: undef :: undef :: undef :: undef :: undef :: undef :: undef :: undef :: undef :: .bool false :: .bool false :: .bool false :: .pointer (some ⟨wr.heap.size, 0, none⟩) :: .int .i64 2 :: .bool false :: .bool false :: undef :: undef :: undef :: undef :: undef :: .bool false :: .bool false :: undef :: undef :: undef :: undef :: undef :: .bool false :: .bool false :: [])
                        case runs4 =>
                          simp only [List.append]
                          with_reducible refine runs_do (by kernel_rfl) (run_move (by kernel_rfl)) ?_
                          with_reducible refine runs_do (by kernel_rfl) (run_move (by kernel_rfl)) ?_
                          with_reducible refine runs_do (by kernel_rfl) (run_idxBool (n := ns.length) (c := cH) (by kernel_rfl) (by kernel_rfl) (by omega)) ?_
                          with_reducible refine runs_do (by kernel_rfl) (run_loadBool (by kernel_rfl) cH1) ?_
                          with_reducible refine runs_do (by kernel_rfl) (run_move (by kernel_rfl)) ?_
                          with_reducible refine runs_skip (by kernel_rfl) ?_
                          with_reducible refine runs_skip (by kernel_rfl) ?_
                          with_reducible refine runs_skip (by kernel_rfl) ?_
                          with_reducible refine runs_do (by kernel_rfl) (run_pick (b := false) (by kernel_rfl) (by kernel_rfl)) ?_
                          with_reducible refine runs_do (by kernel_rfl) (run_move (by kernel_rfl)) ?_
                          with_reducible refine runs_skip (by kernel_rfl) ?_
                          with_reducible refine runs_skip (by kernel_rfl) ?_
                          with_reducible refine runs_skip (by kernel_rfl) ?_
                          with_reducible refine runs_skip (by kernel_rfl) ?_
                          with_reducible refine runs_skip (by kernel_rfl) ?_
                          with_reducible refine runs_do (by kernel_rfl) (run_pick (b := false) (by kernel_rfl) (by kernel_rfl)) ?_
                          with_reducible refine runs_do (by kernel_rfl) (run_move (by kernel_rfl)) ?_
                          with_reducible refine runs_skip (by kernel_rfl) ?_
                          with_reducible refine runs_skip (by kernel_rfl) ?_
                          with_reducible refine runs_skip (by kernel_rfl) ?_
                          with_reducible refine runs_skip (by kernel_rfl) ?_
                          with_reducible refine runs_skip (by kernel_rfl) ?_
                          with_reducible refine runs_skip (by kernel_rfl) ?_
                          with_reducible refine runs_do (by kernel_rfl) (run_pick (b := false) (by kernel_rfl) (by kernel_rfl)) ?_
                          with_reducible refine runs_do (by kernel_rfl) (run_move (by kernel_rfl)) ?_
                          with_reducible refine runs_do (by kernel_rfl) (run_fieldNode (by decide) (by kernel_rfl)) ?_
                          with_reducible refine runs_do (by kernel_rfl) (run_loadInt (by kernel_rfl) n0) ?_
                          with_reducible refine runs_do (by kernel_rfl) (run_eqlInt (x := 2) (c := 2) (b := true) (by kernel_rfl) (by decide)) ?_
                          with_reducible refine runs_do (by kernel_rfl) (run_move (by kernel_rfl)) ?_
                          with_reducible refine runs_do (by kernel_rfl) (run_move (by kernel_rfl)) ?_
                          with_reducible refine runs_do (by kernel_rfl) (run_move (by kernel_rfl)) ?_
                          with_reducible refine runs_do (by kernel_rfl) (run_idxBool (n := ns.length) (c := cH) (by kernel_rfl) (by kernel_rfl) (by omega)) ?_
                          with_reducible refine runs_do (by kernel_rfl) (run_loadBool (by kernel_rfl) cH1) ?_
                          with_reducible refine runs_do (by kernel_rfl) (run_pick (b := true) (by kernel_rfl) (by kernel_rfl)) ?_
                          with_reducible refine runs_do (by kernel_rfl) (run_move (by kernel_rfl)) ?_
                          with_reducible refine runs_skip (by kernel_rfl) ?_
                          with_reducible refine runs_skip (by kernel_rfl) ?_
                          with_reducible refine runs_skip (by kernel_rfl) ?_
                          with_reducible refine runs_skip (by kernel_rfl) ?_
                          with_reducible refine runs_skip (by kernel_rfl) ?_
                          with_reducible refine runs_skip (by kernel_rfl) ?_
                          with_reducible refine runs_skip (by kernel_rfl) ?_
                          with_reducible refine runs_skip (by kernel_rfl) ?_
                          with_reducible refine runs_skip (by kernel_rfl) ?_
                          with_reducible refine runs_skip (by kernel_rfl) ?_
                          with_reducible refine runs_skip (by kernel_rfl) ?_
                          with_reducible refine runs_skip (by kernel_rfl) ?_
                          with_reducible refine runs_skip (by kernel_rfl) ?_
                          with_reducible refine runs_do (by kernel_rfl) (run_pick (b := false) (by kernel_rfl) (by kernel_rfl)) ?_
                          with_reducible refine runs_do (by kernel_rfl) (run_pick (b := false) (by kernel_rfl) (by kernel_rfl)) ?_
                          with_reducible refine runs_do (by kernel_rfl) (run_move (by kernel_rfl)) ?_
                          with_reducible refine runs_do (by kernel_rfl) (run_fieldNode (by decide) (by kernel_rfl)) ?_
                          with_reducible refine runs_do (by kernel_rfl) (run_loadInt (by kernel_rfl) n0) ?_
                          with_reducible refine runs_do (by kernel_rfl) (run_eqlInt (x := 2) (c := 3) (b := false) (by kernel_rfl) (by decide)) ?_
                          with_reducible refine runs_do (by kernel_rfl) (run_move (by kernel_rfl)) ?_
                          with_reducible refine runs_skip (by kernel_rfl) ?_
                          with_reducible refine runs_skip (by kernel_rfl) ?_
                          with_reducible refine runs_skip (by kernel_rfl) ?_
                          with_reducible refine runs_skip (by kernel_rfl) ?_
                          with_reducible refine runs_skip (by kernel_rfl) ?_
                          with_reducible refine runs_do (by kernel_rfl) (run_pick (b := false) (by kernel_rfl) (by kernel_rfl)) ?_
                          with_reducible refine runs_do (by kernel_rfl) (run_move (by kernel_rfl)) ?_
                          with_reducible refine runs_skip (by kernel_rfl) ?_
                          with_reducible refine runs_skip (by kernel_rfl) ?_
                          with_reducible refine runs_skip (by kernel_rfl) ?_
                          with_reducible refine runs_skip (by kernel_rfl) ?_
                          with_reducible refine runs_skip (by kernel_rfl) ?_
                          with_reducible refine runs_do (by kernel_rfl) (run_pick (b := false) (by kernel_rfl) (by kernel_rfl)) ?_
                          with_reducible refine runs_do (by kernel_rfl) (run_pick (b := false) (by kernel_rfl) (by kernel_rfl)) ?_
                          exact runs_nil
                        clear n0 n2 n3
                        simp only [List.append, putAll, Act.put, List.setIfInBounds_toArray, List.set_cons_succ, List.set_cons_zero]
                        go_wp2_with fail
                        refine wp_region_held (S := S) (by kernel_rfl) (by kernel_rfl) hS0 ?_
                        repeat (go_big_quiet_step ((go_at_call 13; exact Calls.held (HDK.out _ hlt (HK.out.2.1 _).1 (HK.out.2.1 _).2) (HK.out.1 _))))
                        refine wpQuiet_nil ?_
                        rintro _ ⟨sw, rfl⟩
                        have HBL2 : Hid _ := HK.out.2.2 _ sw.ok
                        clear HK q0 q1 hS0
                        go_wp2
                        go_roundw
                        case rel => exact ⟨k + 1, by omega, by go_num, HBL2⟩
                        case measure => simp [intOf] <;> omega
                      | true =>
                        obtain ⟨rfl, rfl⟩ := hfn rfl
                        clear hfn
                        repeat (first | go_values | go_skip | go_guarded | (with_reducible refine wp_region_runs (id := 25) ?vs5 ?runs5 ?rest5) | go_step | go_upon | go_back)
                        case vs5 => exact (.slice (some ⟨bH, oH, none⟩) ns.length cH :: .int .i64 (k : Int) :: .pointer (some ⟨bH, oH + k, none⟩) :: .bool true :: .bool true :: .pointer (some ⟨wr.heap.size, 0, none⟩) :: .int .i64 2 :: .bool false :: .bool false :: .bool false :: undef :: undef :: undef :: undef :: undef :: .bool false :: .bool false :: undef :: undef :: undef :: undef :: undef :: undef :: .bool false :: .bool false :: .pointer (some ⟨wr.heap.size, 0, none⟩) :: .int .i64 2 :: .bool true :: .bool true :: .slice (some ⟨bH, oH, none⟩) ns.length cH :: .int .i64 (k : Int) :: .pointer (some ⟨bH, oH + k, none⟩) :: .bool true :: .bool true :: .bool true :: .slice (some ⟨bH, oH, none⟩) ns.length cH :: .pointer (some ⟨wr.heap.size, 2, none⟩) :: .int .i64 (i : Int) :: .pointer (some ⟨bH, oH + i, none⟩) :: .bool true :: .bool true :: .slice (some ⟨bH, oH, none⟩) ns.length cH :: .pointer (some ⟨wr.heap.size, 3, none⟩) :: .int .i64 (j : Int) :: .pointer (some ⟨bH, oH + j, none⟩) :: .bool true :: .bool true :: .bool false :: .bool false :: .bool false :: .bool false :: .pointer (some ⟨wr.heap.size, 0, none⟩) :: .int .i64 2 :: .bool false :: .bool false :: undef :: undef :: undef :: undef :: undef :: .bool false :: .bool false :: undef :: undef :: undef :: undef :: undef :: .bool false :: .bool false :: [])
                        case runs5 =>
                          simp only [List.append]
                          with_reducible refine runs_do (by kernel_rfl) (run_move (by kernel_rfl)) ?_
                          with_reducible refine runs_do (by kernel_rfl) (run_move (by kernel_rfl)) ?_
                          with_reducible refine runs_do (by kernel_rfl) (run_idxBool (n := ns.length) (c := cH) (by kernel_rfl) (by kernel_rfl) (by omega)) ?_
                          with_reducible refine runs_do (by kernel_rfl) (run_loadBool (by kernel_rfl) cH1) ?_
                          with_reducible refine runs_do (by kernel_rfl) (run_move (by kernel_rfl)) ?_
                          with_reducible refine runs_do (by kernel_rfl) (run_fieldNode (by decide) (by kernel_rfl)) ?_
                          with_reducible refine runs_do (by kernel_rfl) (run_loadInt (by kernel_rfl) n0) ?_
                          with_reducible refine runs_do (by kernel_rfl) (run_eqlInt (x := 2) (c := 5) (b := false) (by kernel_rfl) (by decide)) ?_
                          with_reducible refine runs_do (by kernel_rfl) (run_pick (b := true) (by kernel_rfl) (by kernel_rfl)) ?_
                          with_reducible refine runs_do (by kernel_rfl) (run_move (by kernel_rfl)) ?_
                          with_reducible refine runs_skip (by kernel_rfl) ?_
                          with_reducible refine runs_skip (by kernel_rfl) ?_
                          with_reducible refine runs_skip (by kernel_rfl) ?_
                          with_reducible refine runs_skip (by kernel_rfl) ?_
                          with_reducible refine runs_skip (by kernel_rfl) ?_
                          with_reducible refine runs_do (by kernel_rfl) (run_pick (b := false) (by kernel_rfl) (by kernel_rfl)) ?_
                          with_reducible refine runs_do (by kernel_rfl) (run_move (by kernel_rfl)) ?_
                          with_reducible refine runs_skip (by kernel_rfl) ?_
                          with_reducible refine runs_skip (by kernel_rfl) ?_
                          with_reducible refine runs_skip (by kernel_rfl) ?_
                          with_reducible refine runs_skip (by kernel_rfl) ?_
                          with_reducible refine runs_skip (by kernel_rfl) ?_
                          with_reducible refine runs_skip (by kernel_rfl) ?_
                          with_reducible refine runs_do (by kernel_rfl) (run_pick (b := false) (by kernel_rfl) (by kernel_rfl)) ?_
                          with_reducible refine runs_do (by kernel_rfl) (run_move (by kernel_rfl)) ?_
                          with_reducible refine runs_do (by kernel_rfl) (run_fieldNode (by decide) (by kernel_rfl)) ?_
                          with_reducible refine runs_do (by kernel_rfl) (run_loadInt (by kernel_rfl) n0) ?_
                          with_reducible refine runs_do (by kernel_rfl) (run_eqlInt (x := 2) (c := 2) (b := true) (by kernel_rfl) (by decide)) ?_
                          with_reducible refine runs_do (by kernel_rfl) (run_move (by kernel_rfl)) ?_
                          with_reducible refine runs_do (by kernel_rfl) (run_move (by kernel_rfl)) ?_
                          with_reducible refine runs_do (by kernel_rfl) (run_move (by kernel_rfl)) ?_
                          with_reducible refine runs_do (by kernel_rfl) (run_idxBool (n := ns.length) (c := cH) (by kernel_rfl) (by kernel_rfl) (by omega)) ?_
                          with_reducible refine runs_do (by kernel_rfl) (run_loadBool (by kernel_rfl) cH1) ?_
                          with_reducible refine runs_do (by kernel_rfl) (run_pick (b := true) (by kernel_rfl) (by kernel_rfl)) ?_
                          with_reducible refine runs_do (by kernel_rfl) (run_move (by kernel_rfl)) ?_
                          with_reducible refine runs_do (by kernel_rfl) (run_move (by kernel_rfl)) ?_
                          with_reducible refine runs_do (by kernel_rfl) (run_fieldNode (by decide) (by kernel_rfl)) ?_
                          with_reducible refine runs_do (by kernel_rfl) (run_loadInt (by kernel_rfl) n2) ?_
                          with_reducible refine runs_do (by kernel_rfl) (run_idxBool (n := ns.length) (c := cH) (by kernel_rfl) (by kernel_rfl) (by omega)) ?_
                          with_reducible refine runs_do (by kernel_rfl) (run_loadBool (by kernel_rfl) cI) ?_
                          with_reducible refine runs_do (by kernel_rfl) (run_move (by kernel_rfl)) ?_
                          with_reducible refine runs_do (by kernel_rfl) (run_move (by kernel_rfl)) ?_
                          with_reducible refine runs_do (by kernel_rfl) (run_fieldNode (by decide) (by kernel_rfl)) ?_
                          with_reducible refine runs_do (by kernel_rfl) (run_loadInt (by kernel_rfl) n3) ?_
                          with_reducible refine runs_do (by kernel_rfl) (run_idxBool (n := ns.length) (c := cH) (by kernel_rfl) (by kernel_rfl) (by omega)) ?_
                          with_reducible refine runs_do (by kernel_rfl) (run_loadBool (by kernel_rfl) cJ) ?_
                          with_reducible refine runs_do (by kernel_rfl) (run_pick (b := true) (by kernel_rfl) (by kernel_rfl)) ?_
                          with_reducible refine runs_do (by kernel_rfl) (run_not (b := true) (by kernel_rfl)) ?_
                          with_reducible refine runs_do (by kernel_rfl) (run_pick (b := true) (by kernel_rfl) (by kernel_rfl)) ?_
                          with_reducible refine runs_do (by kernel_rfl) (run_pick (b := false) (by kernel_rfl) (by kernel_rfl)) ?_
                          with_reducible refine runs_do (by kernel_rfl) (run_move (by kernel_rfl)) ?_
                          with_reducible refine runs_do (by kernel_rfl) (run_fieldNode (by decide) (by kernel_rfl)) ?_
                          with_reducible refine runs_do (by kernel_rfl) (run_loadInt (by kernel_rfl) n0) ?_
                          with_reducible refine runs_do (by kernel_rfl) (run_eqlInt (x := 2) (c := 3) (b := false) (by kernel_rfl) (by decide)) ?_
                          with_reducible refine runs_do (by kernel_rfl) (run_move (by kernel_rfl)) ?_
                          with_reducible refine runs_skip (by kernel_rfl) ?_
                          with_reducible refine runs_skip (by kernel_rfl) ?_
                          with_reducible refine runs_skip (by kernel_rfl) ?_
                          with_reducible refine runs_skip (by kernel_rfl) ?_
                          with_reducible refine runs_skip (by kernel_rfl) ?_
                          with_reducible refine runs_do (by kernel_rfl) (run_pick (b := false) (by kernel_rfl) (by kernel_rfl)) ?_
                          with_reducible refine runs_do (by kernel_rfl) (run_move (by kernel_rfl)) ?_
                          with_reducible refine runs_skip (by kernel_rfl) ?_
                          with_reducible refine runs_skip (by kernel_rfl) ?_
                          with_reducible refine runs_skip (by kernel_rfl) ?_
                          with_reducible refine runs_skip (by kernel_rfl) ?_
                          with_reducible refine runs_skip (by kernel_rfl) ?_
                          with_reducible refine runs_do (by kernel_rfl) (run_pick (b := false) (by kernel_rfl) (by kernel_rfl)) ?_
                          with_reducible refine runs_do (by kernel_rfl) (run_pick (b := false) (by kernel_rfl) (by kernel_rfl)) ?_
                          exact runs_nil
                        clear n0 n2 n3
                        simp only [List.append, putAll, Act.put, List.setIfInBounds_toArray, List.set_cons_succ, List.set_cons_zero]
                        go_wp2_with fail
                        refine wp_region_held (S := S) (by kernel_rfl) (by kernel_rfl) hS0 ?_
                        repeat (go_big_quiet_step ((go_at_call 13; exact Calls.held (HDK.out _ hlt (HK.out.2.1 _).1 (HK.out.2.1 _).2) (HK.out.1 _))))
                        refine wpQuiet_nil ?_
                        rintro _ ⟨sw, rfl⟩
                        have HBL2 : Hid _ := HK.out.2.2 _ sw.ok
                        clear HK q0 q1 hS0
                        go_wp2
                        go_roundw
                        case rel => exact ⟨k + 1, by omega, by go_num, HBL2⟩
                        case measure => simp [intOf] <;> omega
                    · have hfn : t1 = true → t0 = true := hha rfl
                      clear hsl hpr hha cJ
                      cases t1 with
                      | false =>
                        clear hfn
                        cases t0 with
                        | false =>
                          repeat (first | go_values | go_skip | go_guarded | (with_reducible refine wp_region_runs (id := 25) ?vs6 ?runs6 ?rest6) | go_step | go_upon | go_back)
                          case vs6 => exact (.slice (some ⟨bH, oH, none⟩) ns.length cH :: .int .i64 (k : Int) :: .pointer (some ⟨bH, oH + k, none⟩) :: .bool false :: .bool false :: undef :: undef :: undef :: .bool false :: .bool false :: undef :: undef :: undef :: undef :: undef :: .bool false :: .bool false :: undef :: undef :: undef :: undef :: undef :: undef :: .bool false :: .bool false :: .pointer (some ⟨wr.heap.size, 0, none⟩) :: .int .i64 3 :: .bool false :: .bool false :: undef :: undef :: undef :: undef :: .bool false :: .bool false :: undef :: undef :: undef :: undef :: undef :: undef :: undef :: undef :: undef :: undef :: undef :: undef :: undef :: .bool false :: .bool false :: .bool false :: .pointer (some ⟨wr.heap.size, 0, none⟩) :: .int .i64 3 :: .bool true :: .bool true :: .slice (some ⟨bH, oH, none⟩) ns.length cH :: .pointer (some ⟨wr.heap.size, 2, none⟩) :: .int .i64 (i : Int) :: .pointer (some ⟨bH, oH + i, none⟩) :: .bool false :: .bool false :: .bool false :: undef :: undef :: undef :: undef :: undef :: .bool false :: .bool false :: [])
                          case runs6 =>
                            simp only [List.append]
                            with_reducible refine runs_do (by kernel_rfl) (run_move (by kernel_rfl)) ?_
                            with_reducible refine runs_do (by kernel_rfl) (run_move (by kernel_rfl)) ?_
                            with_reducible refine runs_do (by kernel_rfl) (run_idxBool (n := ns.length) (c := cH) (by kernel_rfl) (by kernel_rfl) (by omega)) ?_
                            with_reducible refine runs_do (by kernel_rfl) (run_loadBool (by kernel_rfl) cH1) ?_
                            with_reducible refine runs_do (by kernel_rfl) (run_move (by kernel_rfl)) ?_
                            with_reducible refine runs_skip (by kernel_rfl) ?_
                            with_reducible refine runs_skip (by kernel_rfl) ?_
                            with_reducible refine runs_skip (by kernel_rfl) ?_
                            with_reducible refine runs_do (by kernel_rfl) (run_pick (b := false) (by kernel_rfl) (by kernel_rfl)) ?_
                            with_reducible refine runs_do (by kernel_rfl) (run_move (by kernel_rfl)) ?_
                            with_reducible refine runs_skip (by kernel_rfl) ?_
                            with_reducible refine runs_skip (by kernel_rfl) ?_
                            with_reducible refine runs_skip (by kernel_rfl) ?_
                            with_reducible refine runs_skip (by kernel_rfl) ?_
                            with_reducible refine runs_skip (by kernel_rfl) ?_
                            with_reducible refine runs_do (by kernel_rfl) (run_pick (b := false) (by kernel_rfl) (by kernel_rfl)) ?_
                            with_reducible refine runs_do (by kernel_rfl) (run_move (by kernel_rfl)) ?_
                            with_reducible refine runs_skip (by kernel_rfl) ?_
                            with_reducible refine runs_skip (by kernel_rfl) ?_
                            with_reducible refine runs_skip (by kernel_rfl) ?_
                            with_reducible refine runs_skip (by kernel_rfl) ?_
                            with_reducible refine runs_skip (by kernel_rfl) ?_
                            with_reducible refine runs_skip (by kernel_rfl) ?_
                            with_reducible refine runs_do (by kernel_rfl) (run_pick (b := false) (by kernel_rfl) (by kernel_rfl)) ?_
                            with_reducible refine runs_do (by kernel_rfl) (run_move (by kernel_rfl)) ?_
                            with_reducible refine runs_do (by kernel_rfl) (run_fieldNode (by decide) (by kernel_rfl)) ?_
                            with_reducible refine runs_do (by kernel_rfl) (run_loadInt (by kernel_rfl) n0) ?_
                            with_reducible refine runs_do (by kernel_rfl) (run_eqlInt (x := 3) (c := 2) (b := false) (by kernel_rfl) (by decide)) ?_
                            with_reducible refine runs_do (by kernel_rfl) (run_move (by kernel_rfl)) ?_
                            with_reducible refine runs_skip (by kernel_rfl) ?_
                            with_reducible refine runs_skip (by kernel_rfl) ?_
                            with_reducible refine runs_skip (by kernel_rfl) ?_
                            with_reducible refine runs_skip (by kernel_rfl) ?_
                            with_reducible refine runs_do (by kernel_rfl) (run_pick (b := false) (by kernel_rfl) (by kernel_rfl)) ?_
                            with_reducible refine runs_do (by kernel_rfl) (run_move (by kernel_rfl)) ?_
                            with_reducible refine runs_skip (by kernel_rfl) ?_
                            with_reducible refine runs_skip (by kernel_rfl) ?_
                            with_reducible refine runs_skip (by kernel_rfl) ?_
                            with_reducible refine runs_skip (by kernel_rfl) ?_
                            with_reducible refine runs_skip (by kernel_rfl) ?_
                            with_reducible refine runs_skip (by kernel_rfl) ?_
                            with_reducible refine runs_skip (by kernel_rfl) ?_
                            with_reducible refine runs_skip (by kernel_rfl) ?_
                            with_reducible refine runs_skip (by kernel_rfl) ?_
                            with_reducible refine runs_skip (by kernel_rfl) ?_
                            with_reducible refine runs_skip (by kernel_rfl) ?_
                            with_reducible refine runs_skip (by kernel_rfl) ?_
                            with_reducible refine runs_skip (by kernel_rfl) ?_
                            with_reducible refine runs_do (by kernel_rfl) (run_pick (b := false) (by kernel_rfl) (by kernel_rfl)) ?_
                            with_reducible refine runs_do (by kernel_rfl) (run_pick (b := false) (by kernel_rfl) (by kernel_rfl)) ?_
                            with_reducible refine runs_do (by kernel_rfl) (run_move (by kernel_rfl)) ?_
                            with_reducible refine runs_do (by kernel_rfl) (run_fieldNode (by decide) (by kernel_rfl)) ?_
                            with_reducible refine runs_do (by kernel_rfl) (run_loadInt (by kernel_rfl) n0) ?_
                            with_reducible refine runs_do (by kernel_rfl) (run_eqlInt (x := 3) (c := 3) (b := true) (by kernel_rfl) (by decide)) ?_
                            with_reducible refine runs_do (by kernel_rfl) (run_move (by kernel_rfl)) ?_
                            with_reducible refine runs_do (by kernel_rfl) (run_move (by kernel_rfl)) ?_
                            with_reducible refine runs_do (by kernel_rfl) (run_fieldNode (by decide) (by kernel_rfl)) ?_
                            with_reducible refine runs_do (by kernel_rfl) (run_loadInt (by kernel_rfl) n2) ?_
                            with_reducible refine runs_do (by kernel_rfl) (run_idxBool (n := ns.length) (c := cH) (by kernel_rfl) (by kernel_rfl) (by omega)) ?_
                            with_reducible refine runs_do (by kernel_rfl) (run_loadBool (by kernel_rfl) cI) ?_
                            with_reducible refine runs_do (by kernel_rfl) (run_pick (b := true) (by kernel_rfl) (by kernel_rfl)) ?_
                            with_reducible refine runs_do (by kernel_rfl) (run_move (by kernel_rfl)) ?_
                            with_reducible refine runs_skip (by kernel_rfl) ?_
                            with_reducible refine runs_skip (by kernel_rfl) ?_
                            with_reducible refine runs_skip (by kernel_rfl) ?_
                            with_reducible refine runs_skip (by kernel_rfl) ?_
                            with_reducible refine runs_skip (by kernel_rfl) ?_
                            with_reducible refine runs_do (by kernel_rfl) (run_pick (b := false) (by kernel_rfl) (by kernel_rfl)) ?_
                            with_reducible refine runs_do (by kernel_rfl) (run_pick (b := false) (by kernel_rfl) (by kernel_rfl)) ?_
                            exact runs_nil
                          clear n0 n2 n3
                          simp only [List.append, putAll, Act.put, List.setIfInBounds_toArray, List.set_cons_succ, List.set_cons_zero]
                          go_wp2_with fail
                          refine wp_region_held (S := S) (by kernel_rfl) (by kernel_rfl) hS0 ?_
                          repeat (go_big_quiet_step ((go_at_call 13; exact Calls.held (HDK.out _ hlt (HK.out.2.1 _).1 (HK.out.2.1 _).2) (HK.out.1 _))))
                          refine wpQuiet_nil ?_
                          rintro _ ⟨sw, rfl⟩
                          have HBL2 : Hid _ := HK.out.2.2 _ sw.ok
                          clear HK q0 q1 hS0
                          go_wp2
                          go_roundw
                          case rel => exact ⟨k + 1, by omega, by go_num, HBL2⟩
                          case measure => simp [intOf] <;> omega
                        | true =>
                          repeat (first | go_values | go_skip | go_guarded | (with_reducible refine wp_region_runs (id := 25) ?vs7 ?runs7 ?rest7) | go_step | go_upon | go_back)
                          case vs7 => exact (.slice (some ⟨bH, oH, none⟩) ns.length cH :: .int .i64 (k : Int) :: .pointer (some ⟨bH, oH + k, none⟩) :: .bool true :: .bool true :: .pointer (some ⟨wr.heap.size, 0, none⟩) :: .int .i64 3 :: .bool false :: .bool false :: .bool false :: undef :: undef :: undef :: undef :: undef :: .bool false :: .bool false :: undef :: undef :: undef :: undef :: undef :: undef :: .bool false :: .bool false :: .pointer (some ⟨wr.heap.size, 0, none⟩) :: .int .i64 3 :: .bool false :: .bool false :: undef :: undef :: undef :: undef :: .bool false :: .bool false :: undef :: undef :: undef :: undef :: undef :: undef :: undef :: undef :: undef :: undef :: undef :: undef :: undef :: .bool false :: .bool false :: .bool false :: .pointer (some ⟨wr.heap.size, 0, none⟩) :: .int .i64 3 :: .bool true :: .bool true :: .slice (some ⟨bH, oH, none⟩) ns.length cH :: .pointer (some ⟨wr.heap.size, 2, none⟩) :: .int .i64 (i : Int) :: .pointer (some ⟨bH, oH + i, none⟩) :: .bool false :: .bool false :: .bool false :: undef :: undef :: undef :: undef :: undef :: .bool false :: .bool false :: [])
                          case runs7 =>
                            simp only [List.append]
                            with_reducible refine runs_do (by kernel_rfl) (run_move (by kernel_rfl)) ?_
                            with_reducible refine runs_do (by kernel_rfl) (run_move (by kernel_rfl)) ?_
                            with_reducible refine runs_do (by kernel_rfl) (run_idxBool (n := ns.length) (c := cH) (by kernel_rfl) (by kernel_rfl) (by omega)) ?_
                            with_reducible refine runs_do (by kernel_rfl) (run_loadBool (by kernel_rfl) cH1) ?_
                            with_reducible refine runs_do (by kernel_rfl) (run_move (by kernel_rfl)) ?_
                            with_reducible refine runs_do (by kernel_rfl) (run_fieldNode (by decide) (by kernel_rfl)) ?_
                            with_reducible refine runs_do (by kernel_rfl) (run_loadInt (by kernel_rfl) n0) ?_
                            with_reducible refine runs_do (by kernel_rfl) (run_eqlInt (x := 3) (c := 5) (b := false) (by kernel_rfl) (by decide)) ?_
                            with_reducible refine runs_do (by kernel_rfl) (run_pick (b := true) (by kernel_rfl) (by kernel_rfl)) ?_
                            with_reducible refine runs_do (by kernel_rfl) (run_move (by kernel_rfl)) ?_
                            with_reducible refine runs_skip (by kernel_rfl) ?_
                            with_reducible refine runs_skip (by kernel_rfl) ?_
                            with_reducible refine runs_skip (by kernel_rfl) ?_
                            with_reducible refine runs_skip (by kernel_rfl) ?_
                            with_reducible refine runs_skip (by kernel_rfl) ?_
                            with_reducible refine runs_do (by kernel_rfl) (run_pick (b := false) (by kernel_rfl) (by kernel_rfl)) ?_
                            with_reducible refine runs_do (by kernel_rfl) (run_move (by kernel_rfl)) ?_
                            with_reducible refine runs_skip (by kernel_rfl) ?_
                            with_reducible refine runs_skip (by kernel_rfl) ?_
                            with_reducible refine runs_skip (by kernel_rfl) ?_
                            with_reducible refine runs_skip (by kernel_rfl) ?_
                            with_reducible refine runs_skip (by kernel_rfl) ?_
                            with_reducible refine runs_skip (by kernel_rfl) ?_
                            with_reducible refine runs_do (by kernel_rfl) (run_pick (b := false) (by kernel_rfl) (by kernel_rfl)) ?_
                            with_reducible refine runs_do (by kernel_rfl) (run_move (by kernel_rfl)) ?_
                            with_reducible refine runs_do (by kernel_rfl) (run_fieldNode (by decide) (by kernel_rfl)) ?_
                            with_reducible refine runs_do (by kernel_rfl) (run_loadInt (by kernel_rfl) n0) ?_
                            with_reducible refine runs_do (by kernel_rfl) (run_eqlInt (x := 3) (c := 2) (b := false) (by kernel_rfl) (by decide)) ?_
                            with_reducible refine runs_do (by kernel_rfl) (run_move (by kernel_rfl)) ?_
                            with_reducible refine runs_skip (by kernel_rfl) ?_
                            with_reducible refine runs_skip (by kernel_rfl) ?_
                            with_reducible refine runs_skip (by kernel_rfl) ?_
                            with_reducible refine runs_skip (by kernel_rfl) ?_
                            with_reducible refine runs_do (by kernel_rfl) (run_pick (b := false) (by kernel_rfl) (by kernel_rfl)) ?_
                            with_reducible refine runs_do (by kernel_rfl) (run_move (by kernel_rfl)) ?_
                            with_reducible refine runs_skip (by kernel_rfl) ?_
                            with_reducible refine runs_skip (by kernel_rfl) ?_
                            with_reducible refine runs_skip (by kernel_rfl) ?_
                            with_reducible refine runs_skip (by kernel_rfl) ?_
                            with_reducible refine runs_skip (by kernel_rfl) ?_
                            with_reducible refine runs_skip (by kernel_rfl) ?_
                            with_reducible refine runs_skip (by kernel_rfl) ?_
                            with_reducible refine runs_skip (by kernel_rfl) ?_
                            with_reducible refine runs_skip (by kernel_rfl) ?_
                            with_reducible refine runs_skip (by kernel_rfl) ?_
                            with_reducible refine runs_skip (by kernel_rfl) ?_
                            with_reducible refine runs_skip (by kernel_rfl) ?_
                            with_reducible refine runs_skip (by kernel_rfl) ?_
                            with_reducible refine runs_do (by kernel_rfl) (run_pick (b := false) (by kernel_rfl) (by kernel_rfl)) ?_
                            with_reducible refine runs_do (by kernel_rfl) (run_pick (b := false) (by kernel_rfl) (by kernel_rfl)) ?_
                            with_reducible refine runs_do (by kernel_rfl) (run_move (by kernel_rfl)) ?_
                            with_reducible refine runs_do (by kernel_rfl) (run_fieldNode (by decide) (by kernel_rfl)) ?_
                            with_reducible refine runs_do (by kernel_rfl) (run_loadInt (by kernel_rfl) n0) ?_
                            with_reducible refine runs_do (by kernel_rfl) (run_eqlInt (x := 3) (c := 3) (b := true) (by kernel_rfl) (by decide)) ?_
                            with_reducible refine runs_do (by kernel_rfl) (run_move (by kernel_rfl)) ?_
                            with_reducible refine runs_do (by kernel_rfl) (run_move (by kernel_rfl)) ?_
                            with_reducible refine runs_do (by kernel_rfl) (run_fieldNode (by decide) (by kernel_rfl)) ?_
                            with_reducible refine runs_do (by kernel_rfl) (run_loadInt (by kernel_rfl) n2) ?_
                            with_reducible refine runs_do (by kernel_rfl) (run_idxBool (n := ns.length) (c := cH) (by kernel_rfl) (by kernel_rfl) (by omega)) ?_
                            with_reducible refine runs_do (by kernel_rfl) (run_loadBool (by kernel_rfl) cI) ?_
                            with_reducible refine runs_do (by kernel_rfl) (run_pick (b := true) (by kernel_rfl) (by kernel_rfl)) ?_
                            with_reducible refine runs_do (by kernel_rfl) (run_move (by kernel_rfl)) ?_
                            with_reducible refine runs_skip (by kernel_rfl) ?_
                            with_reducible refine runs_skip (by kernel_rfl) ?_
                            with_reducible refine runs_skip (by kernel_rfl) ?_
                            with_reducible refine runs_skip (by kernel_rfl) ?_
                            with_reducible refine runs_skip (by kernel_rfl) ?_
                            with_reducible refine runs_do (by kernel_rfl) (run_pick (b := false) (by kernel_rfl) (by kernel_rfl)) ?_
                            with_reducible refine runs_do (by kernel_rfl) (run_pick (b := false) (by kernel_rfl) (by kernel_rfl)) ?_
                            exact runs_nil
                          clear n0 n2 n3
                          simp only [List.append, putAll, Act.put, List.setIfInBounds_toArray, List.set_cons_succ, List.set_cons_zero]
                          go_wp2_with fail
                          refine wp_region_held (S := S) (by kernel_rfl) (by kernel_rfl) hS0 ?_
                          repeat (go_big_quiet_step ((go_at_call 13; exact Calls.held (HDK.out _ hlt (HK.out.2.1 _).1 (HK.out.2.1 _).2) (HK.out.1 _))))
                          refine wpQuiet_nil ?_
                          rintro _ ⟨sw, rfl⟩
                          have HBL2 : Hid _ := HK.out.2.2 _ sw.ok
                          clear HK q0 q1 hS0
                          go_wp2
                          go_roundw
                          case rel => exact ⟨k + 1, by omega, by go_num, HBL2⟩
                          case measure => simp [intOf] <;> omega
                      | true =>
                        obtain rfl := hfn rfl
                        clear hfn
                        repeat (first | go_values | go_skip | go_guarded | (with_reducible refine wp_region_runs (id := 25) ?vs8 ?runs8 ?rest8) | go_step | go_upon | go_back)
                        case vs8 => exact (.slice (some ⟨bH, oH, none⟩) ns.length cH :: .int .i64 (k : Int) :: .pointer (some ⟨bH, oH + k, none⟩) :: .bool true :: .bool true :: .pointer (some ⟨wr.heap.size, 0, none⟩) :: .int .i64 3 :: .bool false :: .bool false :: .bool false :: undef :: undef :: undef :: undef :: undef :: .bool false :: .bool false :: undef :: undef :: undef :: undef :: undef :: undef :: .bool false :: .bool false :: .pointer (some ⟨wr.heap.size, 0, none⟩) :: .int .i64 3 :: .bool false :: .bool false :: undef :: undef :: undef :: undef :: .bool false :: .bool false :: undef :: undef :: undef :: undef :: undef :: undef :: undef :: undef :: undef :: undef :: undef :: undef :: undef :: .bool false :: .bool false :: .bool false :: .pointer (some ⟨wr.heap.size, 0, none⟩) :: .int .i64 3 :: .bool true :: .bool true :: .slice (some ⟨bH, oH, none⟩) ns.length cH :: .pointer (some ⟨wr.heap.size, 2, none⟩) :: .int .i64 (i : Int) :: .pointer (some ⟨bH, oH + i, none⟩) :: .bool true :: .bool true :: .bool true :: .slice (some ⟨bH, oH, none⟩) ns.length cH :: .int .i64 (k : Int) :: .pointer (some ⟨bH, oH + k, none⟩) :: .bool true :: .bool false :: .bool false :: .bool false :: [])
                        case runs8 =>
                          simp only [List.append]
                          with_reducible refine runs_do (by kernel_rfl) (run_move (by kernel_rfl)) ?_
                          with_reducible refine runs_do (by kernel_rfl) (run_move (by kernel_rfl)) ?_
                          with_reducible refine runs_do (by kernel_rfl) (run_idxBool (n := ns.length) (c := cH) (by kernel_rfl) (by kernel_rfl) (by omega)) ?_
                          with_reducible refine runs_do (by kernel_rfl) (run_loadBool (by kernel_rfl) cH1) ?_
                          with_reducible refine runs_do (by kernel_rfl) (run_move (by kernel_rfl)) ?_
                          with_reducible refine runs_do (by kernel_rfl) (run_fieldNode (by decide) (by kernel_rfl)) ?_
                          with_reducible refine runs_do (by kernel_rfl) (run_loadInt (by kernel_rfl) n0) ?_
                          with_reducible refine runs_do (by kernel_rfl) (run_eqlInt (x := 3) (c := 5) (b := false) (by kernel_rfl) (by decide)) ?_
                          with_reducible refine runs_do (by kernel_rfl) (run_pick (b := true) (by kernel_rfl) (by kernel_rfl)) ?_
                          with_reducible refine runs_do (by kernel_rfl) (run_move (by kernel_rfl)) ?_
                          with_reducible refine runs_skip (by kernel_rfl) ?_
                          with_reducible refine runs_skip (by kernel_rfl) ?_
                          with_reducible refine runs_skip (by kernel_rfl) ?_
                          with_reducible refine runs_skip (by kernel_rfl) ?_
                          with_reducible refine runs_skip (by kernel_rfl) ?_
                          with_reducible refine runs_do (by kernel_rfl) (run_pick (b := false) (by kernel_rfl) (by kernel_rfl)) ?_
                          with_reducible refine runs_do (by kernel_rfl) (run_move (by kernel_rfl)) ?_
                          with_reducible refine runs_skip (by kernel_rfl) ?_
                          with_reducible refine runs_skip (by kernel_rfl) ?_
                          with_reducible refine runs_skip (by kernel_rfl) ?_
                          with_reducible refine runs_skip (by kernel_rfl) ?_
                          with_reducible refine runs_skip (by kernel_rfl) ?_
                          with_reducible refine runs_skip (by kernel_rfl) ?_
                          with_reducible refine runs_do (by kernel_rfl) (run_pick (b := false) (by kernel_rfl) (by kernel_rfl)) ?_
                          with_reducible refine runs_do (by kernel_rfl) (run_move (by kernel_rfl)) ?_
                          with_reducible refine runs_do (by kernel_rfl) (run_fieldNode (by decide) (by kernel_rfl)) ?_
                          with_reducible refine runs_do (by kernel_rfl) (run_loadInt (by kernel_rfl) n0) ?_
                          with_reducible refine runs_do (by kernel_rfl) (run_eqlInt (x := 3) (c := 2) (b := false) (by kernel_rfl) (by decide)) ?_
                          with_reducible refine runs_do (by kernel_rfl) (run_move (by kernel_rfl)) ?_
                          with_reducible refine runs_skip (by kernel_rfl) ?_
                          with_reducible refine runs_skip (by kernel_rfl) ?_
                          with_reducible refine runs_skip (by kernel_rfl) ?_
                          with_reducible refine runs_skip (by kernel_rfl) ?_
                          with_reducible refine runs_do (by kernel_rfl) (run_pick (b := false) (by kernel_rfl) (by kernel_rfl)) ?_
                          with_reducible refine runs_do (by kernel_rfl) (run_move (by kernel_rfl)) ?_
                          with_reducible refine runs_skip (by kernel_rfl) ?_
                          with_reducible refine runs_skip (by kernel_rfl) ?_
                          with_reducible refine runs_skip (by kernel_rfl) ?_
                          with_reducible refine runs_skip (by kernel_rfl) ?_
                          with_reducible refine runs_skip (by kernel_rfl) ?_
                          with_reducible refine runs_skip (by kernel_rfl) ?_
                          with_reducible refine runs_skip (by kernel_rfl) ?_
                          with_reducible refine runs_skip (by kernel_rfl) ?_
                          with_reducible refine runs_skip (by kernel_rfl) ?_
                          with_reducible refine runs_skip (by kernel_rfl) ?_
                          with_reducible refine runs_skip (by kernel_rfl) ?_
                          with_reducible refine runs_skip (by kernel_rfl) ?_
                          with_reducible refine runs_skip (by kernel_rfl) ?_
                          with_reducible refine runs_do (by kernel_rfl) (run_pick (b := false) (by kernel_rfl) (by kernel_rfl)) ?_
                          with_reducible refine runs_do (by kernel_rfl) (run_pick (b := false) (by kernel_rfl) (by kernel_rfl)) ?_
                          with_reducible refine runs_do (by kernel_rfl) (run_move (by kernel_rfl)) ?_
                          with_reducible refine runs_do (by kernel_rfl) (run_fieldNode (by decide) (by kernel_rfl)) ?_
                          with_reducible refine runs_do (by kernel_rfl) (run_loadInt (by kernel_rfl) n0) ?_
                          with_reducible refine runs_do (by kernel_rfl) (run_eqlInt (x := 3) (c := 3) (b := true) (by kernel_rfl) (by decide)) ?_
                          with_reducible refine runs_do (by kernel_rfl) (run_move (by kernel_rfl)) ?_
                          with_reducible refine runs_do (by kernel_rfl) (run_move (by kernel_rfl)) ?_
                          with_reducible refine runs_do (by kernel_rfl) (run_fieldNode (by decide) (by kernel_rfl)) ?_
                          with_reducible refine runs_do (by kernel_rfl) (run_loadInt (by kernel_rfl) n2) ?_
                          with_reducible refine runs_do (by kernel_rfl) (run_idxBool (n := ns.length) (c := cH) (by kernel_rfl) (by kernel_rfl) (by omega)) ?_
                          with_reducible refine runs_do (by kernel_rfl) (run_loadBool (by kernel_rfl) cI) ?_
                          with_reducible refine runs_do (by kernel_rfl) (run_pick (b := true) (by kernel_rfl) (by kernel_rfl)) ?_
                          with_reducible refine runs_do (by kernel_rfl) (run_move (by kernel_rfl)) ?_
                          with_reducible refine runs_do (by kernel_rfl) (run_move (by kernel_rfl)) ?_
                          with_reducible refine runs_do (by kernel_rfl) (run_move (by kernel_rfl)) ?_
                          with_reducible refine runs_do (by kernel_rfl) (run_idxBool (n := ns.length) (c := cH) (by kernel_rfl) (by kernel_rfl) (by omega)) ?_
                          with_reducible refine runs_do (by kernel_rfl) (run_loadBool (by kernel_rfl) cH1) ?_
                          with_reducible refine runs_do (by kernel_rfl) (run_not (b := true) (by kernel_rfl)) ?_
                          with_reducible refine runs_do (by kernel_rfl) (run_pick (b := true) (by kernel_rfl) (by kernel_rfl)) ?_
                          with_reducible refine runs_do (by kernel_rfl) (run_pick (b := false) (by kernel_rfl) (by kernel_rfl)) ?_
                          exact runs_nil
                        clear n0 n2 n3
                        simp only [List.append, putAll, Act.put, List.setIfInBounds_toArray, List.set_cons_succ, List.set_cons_zero]
                        go_wp2_with fail
                        refine wp_region_held (S := S) (by kernel_rfl) (by kernel_rfl) hS0 ?_
                        repeat (go_big_quiet_step ((go_at_call 13; exact Calls.held (HDK.out _ hlt (HK.out.2.1 _).1 (HK.out.2.1 _).2) (HK.out.1 _))))
                        refine wpQuiet_nil ?_
                        rintro _ ⟨sw, rfl⟩
                        have HBL2 : Hid _ := HK.out.2.2 _ sw.ok
                        clear HK q0 q1 hS0
                        go_wp2
                        go_roundw
                        case rel => exact ⟨k + 1, by omega, by go_num, HBL2⟩
                        case measure => simp [intOf] <;> omega
                  · have h5 : (xk == 5) = false := by simp; exact fun e => hkk (.inl e)
                    have h2 : (xk == 2) = false := by simp; exact fun e => hkk (.inr (.inl e))
                    have h3 : (xk == 3) = false := by simp; exact fun e => hkk (.inr (.inr e))
                    clear hsl hpr hha hkk hnt HCB
                    cases t0 with
                    | false =>
                      repeat (first | go_values | go_skip | go_guarded | (with_reducible refine wp_region_runs (id := 25) ?vs9 ?runs9 ?rest9) | go_step | go_upon | go_back)
                      case vs9 => exact (.slice (some ⟨bH, oH, none⟩) ns.length cH :: .int .i64 (k : Int) :: .pointer (some ⟨bH, oH + k, none⟩) :: .bool false :: .bool false :: undef :: undef :: undef :: .bool false :: .bool false :: undef :: undef :: undef :: undef :: undef :: .bool false :: .bool false :: undef :: undef :: undef :: undef :: undef :: undef :: .bool false :: .bool false :: .pointer (some ⟨wr.heap.size, 0, none⟩) :: .int .i64 xk :: .bool false :: .bool false :: undef :: undef :: undef :: undef :: .bool false :: .bool false :: undef :: undef :: undef :: undef :: undef :: undef :: undef :: undef :: undef :: undef :: undef :: undef :: undef :: .bool false :: .bool false :: .bool false :: .pointer (some ⟨wr.heap.size, 0, none⟩) :: .int .i64 xk :: .bool false :: .bool false :: undef :: undef :: undef :: undef :: undef :: .bool false :: .bool false :: undef :: undef :: undef :: undef :: undef :: .bool false :: .bool false :: [])
                      case runs9 =>
                        simp only [List.append]
                        with_reducible refine runs_do (by kernel_rfl) (run_move (by kernel_rfl)) ?_
                        with_reducible refine runs_do (by kernel_rfl) (run_move (by kernel_rfl)) ?_
                        with_reducible refine runs_do (by kernel_rfl) (run_idxBool (n := ns.length) (c := cH) (by kernel_rfl) (by kernel_rfl) (by omega)) ?_
                        with_reducible refine runs_do (by kernel_rfl) (run_loadBool (by kernel_rfl) cH1) ?_
                        with_reducible refine runs_do (by kernel_rfl) (run_move (by kernel_rfl)) ?_
                        with_reducible refine runs_skip (by kernel_rfl) ?_
                        with_reducible refine runs_skip (by kernel_rfl) ?_
                        with_reducible refine runs_skip (by kernel_rfl) ?_
                        with_reducible refine runs_do (by kernel_rfl) (run_pick (b := false) (by kernel_rfl) (by kernel_rfl)) ?_
                        with_reducible refine runs_do (by kernel_rfl) (run_move (by kernel_rfl)) ?_
                        with_reducible refine runs_skip (by kernel_rfl) ?_
                        with_reducible refine runs_skip (by kernel_rfl) ?_
                        with_reducible refine runs_skip (by kernel_rfl) ?_
                        with_reducible refine runs_skip (by kernel_rfl) ?_
                        with_reducible refine runs_skip (by kernel_rfl) ?_
                        with_reducible refine runs_do (by kernel_rfl) (run_pick (b := false) (by kernel_rfl) (by kernel_rfl)) ?_
                        with_reducible refine runs_do (by kernel_rfl) (run_move (by kernel_rfl)) ?_
                        with_reducible refine runs_skip (by kernel_rfl) ?_
                        with_reducible refine runs_skip (by kernel_rfl) ?_
                        with_reducible refine runs_skip (by kernel_rfl) ?_
                        with_reducible refine runs_skip (by kernel_rfl) ?_
                        with_reducible refine runs_skip (by kernel_rfl) ?_
                        with_reducible refine runs_skip (by kernel_rfl) ?_
                        with_reducible refine runs_do (by kernel_rfl) (run_pick (b := false) (by kernel_rfl) (by kernel_rfl)) ?_
                        with_reducible refine runs_do (by kernel_rfl) (run_move (by kernel_rfl)) ?_
                        with_reducible refine runs_do (by kernel_rfl) (run_fieldNode (by decide) (by kernel_rfl)) ?_
                        with_reducible refine runs_do (by kernel_rfl) (run_loadInt (by kernel_rfl) n0) ?_
                        with_reducible refine runs_do (by kernel_rfl) (run_eqlInt (x := xk) (c := 2) (b := false) (by kernel_rfl) h2) ?_
                        with_reducible refine runs_do (by kernel_rfl) (run_move (by kernel_rfl)) ?_
                        with_reducible refine runs_skip (by kernel_rfl) ?_
                        with_reducible refine runs_skip (by kernel_rfl) ?_
                        with_reducible refine runs_skip (by kernel_rfl) ?_
                        with_reducible refine runs_skip (by kernel_rfl) ?_
                        with_reducible refine runs_do (by kernel_rfl) (run_pick (b := false) (by kernel_rfl) (by kernel_rfl)) ?_
                        with_reducible refine runs_do (by kernel_rfl) (run_move (by kernel_rfl)) ?_
                        with_reducible refine runs_skip (by kernel_rfl) ?_
                        with_reducible refine runs_skip (by kernel_rfl) ?_
                        with_reducible refine runs_skip (by kernel_rfl) ?_
                        with_reducible refine runs_skip (by kernel_rfl) ?_
                        with_reducible refine runs_skip (by kernel_rfl) ?_
                        with_reducible refine runs_skip (by kernel_rfl) ?_
                        with_reducible refine runs_skip (by kernel_rfl) ?_
                        with_reducible refine runs_skip (by kernel_rfl) ?_
                        with_reducible refine runs_skip (by kernel_rfl) ?_
                        with_reducible refine runs_skip (by kernel_rfl) ?_
                        with_reducible refine runs_skip (by kernel_rfl) ?_
                        with_reducible refine runs_skip (by kernel_rfl) ?_
                        with_reducible refine runs_skip (by kernel_rfl) ?_
                        with_reducible refine runs_do (by kernel_rfl) (run_pick (b := false) (by kernel_rfl) (by kernel_rfl)) ?_
                        with_reducible refine runs_do (by kernel_rfl) (run_pick (b := false) (by kernel_rfl) (by kernel_rfl)) ?_
                        with_reducible refine runs_do (by kernel_rfl) (run_move (by kernel_rfl)) ?_
                        with_reducible refine runs_do (by kernel_rfl) (run_fieldNode (by decide) (by kernel_rfl)) ?_
                        with_reducible refine runs_do (by kernel_rfl) (run_loadInt (by kernel_rfl) n0) ?_
                        with_reducible refine runs_do (by kernel_rfl) (run_eqlInt (x := xk) (c := 3) (b := false) (by kernel_rfl) h3) ?_
                        with_reducible refine runs_do (by kernel_rfl) (run_move (by kernel_rfl)) ?_
                        with_reducible refine runs_skip (by kernel_rfl) ?_
                        with_reducible refine runs_skip (by kernel_rfl) ?_
                        with_reducible refine runs_skip (by kernel_rfl) ?_
                        with_reducible refine runs_skip (by kernel_rfl) ?_
                        with_reducible refine runs_skip (by kernel_rfl) ?_
                        with_reducible refine runs_do (by kernel_rfl) (run_pick (b := false) (by kernel_rfl) (by kernel_rfl)) ?_
                        with_reducible refine runs_do (by kernel_rfl) (run_move (by kernel_rfl)) ?_
                        with_reducible refine runs_skip (by kernel_rfl) ?_
                        with_reducible refine runs_skip (by kernel_rfl) ?_
                        with_reducible refine runs_skip (by kernel_rfl) ?_
                        with_reducible refine runs_skip (by kernel_rfl) ?_
                        with_reducible refine runs_skip (by kernel_rfl) ?_
                        with_reducible refine runs_do (by kernel_rfl) (run_pick (b := false) (by kernel_rfl) (by kernel_rfl)) ?_
                        with_reducible refine runs_do (by kernel_rfl) (run_pick (b := false) (by kernel_rfl) (by kernel_rfl)) ?_
                        exact runs_nil
                      clear n0 n2 n3
                      simp only [List.append, putAll, Act.put, List.setIfInBounds_toArray, List.set_cons_succ, List.set_cons_zero]
                      go_wp2_with fail
                      refine wp_region_held (S := S) (by kernel_rfl) (by kernel_rfl) hS0 ?_
                      repeat (go_big_quiet_step ((go_at_call 13; exact Calls.held (HDK.out _ hlt (HK.out.2.1 _).1 (HK.out.2.1 _).2) (HK.out.1 _))))
                      refine wpQuiet_nil ?_
                      rintro _ ⟨sw, rfl⟩
                      have HBL2 : Hid _ := HK.out.2.2 _ sw.ok
                      clear HK q0 q1 hS0
                      go_wp2
                      go_roundw
                      case rel => exact ⟨k + 1, by omega, by go_num, HBL2⟩
                      case measure => simp [intOf] <;> omega
                    | true =>
                      repeat (first | go_values | go_skip | go_guarded | (with_reducible refine wp_region_runs (id := 25) ?vs10 ?runs10 ?rest10) | go_step | go_upon | go_back)
                      case vs10 => exact (.slice (some ⟨bH, oH, none⟩) ns.length cH :: .int .i64 (k : Int) :: .pointer (some ⟨bH, oH + k, none⟩) :: .bool true :: .bool true :: .pointer (some ⟨wr.heap.size, 0, none⟩) :: .int .i64 xk :: .bool false :: .bool false :: .bool false :: undef :: undef :: undef :: undef :: undef :: .bool false :: .bool false :: undef :: undef :: undef :: undef :: undef :: undef :: .bool false :: .bool false :: .pointer (some ⟨wr.heap.size, 0, none⟩) :: .int .i64 xk :: .bool false :: .bool false :: undef :: undef :: undef :: undef :: .bool false :: .bool false :: undef :: undef :: undef :: undef :: undef :: undef :: undef :: undef :: undef :: undef :: undef :: undef :: undef :: .bool false :: .bool false :: .bool false :: .pointer (some ⟨wr.heap.size, 0, none⟩) :: .int .i64 xk :: .bool false :: .bool false :: undef :: undef :: undef :: undef :: undef :: .bool false :: .bool false :: undef :: undef :: undef :: undef :: undef :: .bool false :: .bool false :: [])
                      case runs10 =>
                        simp only [List.append]
                        with_reducible refine runs_do (by kernel_rfl) (run_move (by kernel_rfl)) ?_
                        with_reducible refine runs_do (by kernel_rfl) (run_move (by kernel_rfl)) ?_
                        with_reducible refine runs_do (by kernel_rfl) (run_idxBool (n := ns.length) (c := cH) (by kernel_rfl) (by kernel_rfl) (by omega)) ?_
                        with_reducible refine runs_do (by kernel_rfl) (run_loadBool (by kernel_rfl) cH1) ?_
                        with_reducible refine runs_do (by kernel_rfl) (run_move (by kernel_rfl)) ?_
                        with_reducible refine runs_do (by kernel_rfl) (run_fieldNode (by decide) (by kernel_rfl)) ?_
                        with_reducible refine runs_do (by kernel_rfl) (run_loadInt (by kernel_rfl) n0) ?_
                        with_reducible refine runs_do (by kernel_rfl) (run_eqlInt (x := xk) (c := 5) (b := false) (by kernel_rfl) h5) ?_
                        with_reducible refine runs_do (by kernel_rfl) (run_pick (b := true) (by kernel_rfl) (by kernel_rfl)) ?_
                        with_reducible refine runs_do (by kernel_rfl) (run_move (by kernel_rfl)) ?_
                        with_reducible refine runs_skip (by kernel_rfl) ?_
                        with_reducible refine runs_skip (by kernel_rfl) ?_
                        with_reducible refine runs_skip (by kernel_rfl) ?_
                        with_reducible refine runs_skip (by kernel_rfl) ?_
                        with_reducible refine runs_skip (by kernel_rfl) ?_
                        with_reducible refine runs_do (by kernel_rfl) (run_pick (b := false) (by kernel_rfl) (by kernel_rfl)) ?_
                        with_reducible refine runs_do (by kernel_rfl) (run_move (by kernel_rfl)) ?_
                        with_reducible refine runs_skip (by kernel_rfl) ?_
                        with_reducible refine runs_skip (by kernel_rfl) ?_
                        with_reducible refine runs_skip (by kernel_rfl) ?_
                        with_reducible refine runs_skip (by kernel_rfl) ?_
                        with_reducible refine runs_skip (by kernel_rfl) ?_
                        with_reducible refine runs_skip (by kernel_rfl) ?_
                        with_reducible refine runs_do (by kernel_rfl) (run_pick (b := false) (by kernel_rfl) (by kernel_rfl)) ?_
                        with_reducible refine runs_do (by kernel_rfl) (run_move (by kernel_rfl)) ?_
                        with_reducible refine runs_do (by kernel_rfl) (run_fieldNode (by decide) (by kernel_rfl)) ?_
                        with_reducible refine runs_do (by kernel_rfl) (run_loadInt (by kernel_rfl) n0) ?_
                        with_reducible refine runs_do (by kernel_rfl) (run_eqlInt (x := xk) (c := 2) (b := false) (by kernel_rfl) h2) ?_
                        with_reducible refine runs_do (by kernel_rfl) (run_move (by kernel_rfl)) ?_
                        with_reducible refine runs_skip (by kernel_rfl) ?_
                        with_reducible refine runs_skip (by kernel_rfl) ?_
                        with_reducible refine runs_skip (by kernel_rfl) ?_
                        with_reducible refine runs_skip (by kernel_rfl) ?_
                        with_reducible refine runs_do (by kernel_rfl) (run_pick (b := false) (by kernel_rfl) (by kernel_rfl)) ?_
                        with_reducible refine runs_do (by kernel_rfl) (run_move (by kernel_rfl)) ?_
                        with_reducible refine runs_skip (by kernel_rfl) ?_
                        with_reducible refine runs_skip (by kernel_rfl) ?_
                        with_reducible refine runs_skip (by kernel_rfl) ?_
                        with_reducible refine runs_skip (by kernel_rfl) ?_
                        with_reducible refine runs_skip (by kernel_rfl) ?_
                        with_reducible refine runs_skip (by kernel_rfl) ?_
                        with_reducible refine runs_skip (by kernel_rfl) ?_
                        with_reducible refine runs_skip (by kernel_rfl) ?_
                        with_reducible refine runs_skip (by kernel_rfl) ?_
                        with_reducible refine runs_skip (by kernel_rfl) ?_
                        with_reducible refine runs_skip (by kernel_rfl) ?_
                        with_reducible refine runs_skip (by kernel_rfl) ?_
                        with_reducible refine runs_skip (by kernel_rfl) ?_
                        with_reducible refine runs_do (by kernel_rfl) (run_pick (b := false) (by kernel_rfl) (by kernel_rfl)) ?_
                        with_reducible refine runs_do (by kernel_rfl) (run_pick (b := false) (by kernel_rfl) (by kernel_rfl)) ?_
                        with_reducible refine runs_do (by kernel_rfl) (run_move (by kernel_rfl)) ?_
                        with_reducible refine runs_do (by kernel_rfl) (run_fieldNode (by decide) (by kernel_rfl)) ?_
                        with_reducible refine runs_do (by kernel_rfl) (run_loadInt (by kernel_rfl) n0) ?_
                        with_reducible refine runs_do (by kernel_rfl) (run_eqlInt (x := xk) (c := 3) (b := false) (by kernel_rfl) h3) ?_
                        with_reducible refine runs_do (by kernel_rfl) (run_move (by kernel_rfl)) ?_
                        with_reducible refine runs_skip (by kernel_rfl) ?_
                        with_reducible refine runs_skip (by kernel_rfl) ?_
                        with_reducible refine runs_skip (by kernel_rfl) ?_
                        with_reducible refine runs_skip (by kernel_rfl) ?_
                        with_reducible refine runs_skip (by kernel_rfl) ?_
                        with_reducible refine runs_do (by kernel_rfl) (run_pick (b := false) (by kernel_rfl) (by kernel_rfl)) ?_
                        with_reducible refine runs_do (by kernel_rfl) (run_move (by kernel_rfl)) ?_
                        with_reducible refine runs_skip (by kernel_rfl) ?_
                        with_reducible refine runs_skip (by kernel_rfl) ?_
                        with_reducible refine runs_skip (by kernel_rfl) ?_
                        with_reducible refine runs_skip (by kernel_rfl) ?_
                        with_reducible refine runs_skip (by kernel_rfl) ?_
                        with_reducible refine runs_do (by kernel_rfl) (run_pick (b := false) (by kernel_rfl) (by kernel_rfl)) ?_
                        with_reducible refine runs_do (by kernel_rfl) (run_pick (b := false) (by kernel_rfl) (by kernel_rfl)) ?_
                        exact runs_nil
                      clear n0 n2 n3
                      simp only [List.append, putAll, Act.put, List.setIfInBounds_toArray, List.set_cons_succ, List.set_cons_zero]
                      go_wp2_with fail
                      refine wp_region_held (S := S) (by kernel_rfl) (by kernel_rfl) hS0 ?_
                      repeat (go_big_quiet_step ((go_at_call 13; exact Calls.held (HDK.out _ hlt (HK.out.2.1 _).1 (HK.out.2.1 _).2) (HK.out.1 _))))
                      refine wpQuiet_nil ?_
                      rintro _ ⟨sw, rfl⟩
                      have HBL2 : Hid _ := HK.out.2.2 _ sw.ok
                      clear HK q0 q1 hS0
                      go_wp2
                      go_roundw
                      case rel => exact ⟨k + 1, by omega, by go_num, HBL2⟩
                      case measure => simp [intOf] <;> omega
                · obtain rfl : k = ns.length := by omega
                  clear hBA hOA hOK hOH
                  have hbW := HBL.out
                  clear HBL HKW hlt hk HDE HALL HXB
                  replace OA := OA.next hbW
                  replace OK := OK.next hbW
                  replace BA := BA.next hbW
                  replace OH := OH.next hbW
                  replace OG := OG.next hbW
                  replace HB : Hid (Below w.heap.size w wr) := HB.out.trans (hbW.mono HB.out.size)
                  replace HC : Hid (CodeIn wr.heap.size wr a0 len0) := codeIn_later HC.out hbW
                  clear hbW
                  clear cA
                  have cA := BA.c
                  generalize wr = w9 at OA OK BA OH OG HB HC cA ⊢
                  go_wp2_with fail
                  refine (drawReach_any _ _ _ _ HC.out).mono ?_
                  rintro e wd ⟨vX, nx, uX, yx, rfl, hx1, hx2, hfx, hyx, hyb, hoX, hokX, hb⟩
                  obtain ⟨aX, cX, rfl, -, -⟩ := hoX.row
                  obtain ⟨aK, cK, rfl, -, -⟩ := hokX.row
                  have OX := Own.made hoX
                  have OY := OwnZ.made hokX
                  have HFX : Hid (∀ y ∈ nx, y.Fits) := hfx
                  have HFY : Hid (∀ x ∈ yx, -9223372036854775808 ≤ x ∧ x ≤ 9223372036854775807) := fun x hx => by have := hyb x hx; omega
                  clear hoX hokX hfx hyb cA
                  replace OA := OA.next hb
                  replace OK := OK.next hb
                  replace BA := BA.next hb
                  replace OH := OH.next hb
                  replace OG := OG.next hb
                  replace HB : Hid (Below w.heap.size w wd) := HB.out.trans (hb.mono HB.out.size)
                  replace HC : Hid (CodeIn wd.heap.size wd a0 len0) := codeIn_later HC.out hb
                  clear hb
                  have hbb : Below wd.heap.size wd (wd.alloc (.cells #[.slice aX nx.length cX] 26)) := (Below.refl _ _).alloc (Nat.le_refl _) _
                  have VX : Var wd.heap.size (.slice aX nx.length cX) (wd.alloc (.cells #[.slice aX nx.length cX] 26)) := Var.made
                  replace OA := OA.next hbb
                  replace OK := OK.next hbb
                  replace BA := BA.next hbb
                  replace OH := OH.next hbb
                  replace OG := OG.next hbb
                  replace OX := OX.next hbb
                  replace OY := OY.next hbb
                  replace HB : Hid (Below w.heap.size w (wd.alloc (.cells #[.slice aX nx.length cX] 26))) := HB.out.trans (hbb.mono HB.out.size)
                  replace HC : Hid (CodeIn (wd.alloc (.cells #[.slice aX nx.length cX] 26)).heap.size (wd.alloc (.cells #[.slice aX nx.length cX] 26)) a0 len0) := codeIn_later HC.out hbb
                  clear hbb
                  go_wp2_with fail
                  obtain ⟨gX, HGX⟩ : ∃ g, Hid (wd.heap.size = g) := ⟨_, rfl⟩
                  rw [HGX.out] at VX ⊢
                  generalize wd.alloc (.cells #[.slice aX nx.length cX] 26) = we at OA OK BA OH OG OX OY VX HB HC ⊢
                  refine (drawDerives_any _ _ _ _ HC.out).mono ?_
                  rintro e wf ⟨vY, ny, uY, zy, kk, rfl, hy1, hy2, hfy, hzy, hzb, hk1, hk2, hoY, hokY, hb⟩
                  obtain ⟨aY, cY, rfl, -, -⟩ := hoY.row
                  obtain ⟨aL2, cL2, rfl, -, -⟩ := hokY.row
                  have PX := Own.made hoY
                  have PY := OwnZ.made hokY
                  have HGY : Hid (∀ y ∈ ny, y.Fits) := hfy
                  have HGZ : Hid (∀ x ∈ zy, -9223372036854775808 ≤ x ∧ x ≤ 9223372036854775807) := fun x hx => by have := hzb x hx; omega
                  clear hoY hokY hfy hzb
                  replace OA := OA.next hb
                  replace OK := OK.next hb
                  replace BA := BA.next hb
                  replace OH := OH.next hb
                  replace OG := OG.next hb
                  replace OX := OX.next hb
                  replace OY := OY.next hb
                  replace VX := VX.next hb
                  replace HB : Hid (Below w.heap.size w wf) := HB.out.trans (hb.mono HB.out.size)
                  replace HC : Hid (CodeIn wf.heap.size wf a0 len0) := codeIn_later HC.out hb
                  clear hb
                  have hbb : Below wf.heap.size wf (wf.alloc (.cells #[.slice aY ny.length cY] 26)) := (Below.refl _ _).alloc (Nat.le_refl _) _
                  have VY : Var wf.heap.size (.slice aY ny.length cY) (wf.alloc (.cells #[.slice aY ny.length cY] 26)) := Var.made
                  replace OA := OA.next hbb
                  replace OK := OK.next hbb
                  replace BA := BA.next hbb
                  replace OH := OH.next hbb
                  replace OG := OG.next hbb
                  replace OX := OX.next hbb
                  replace OY := OY.next hbb
                  replace VX := VX.next hbb
                  replace PX := PX.next hbb
                  replace PY := PY.next hbb
                  replace HB : Hid (Below w.heap.size w (wf.alloc (.cells #[.slice aY ny.length cY] 26))) := HB.out.trans (hbb.mono HB.out.size)
                  replace HC : Hid (CodeIn (wf.alloc (.cells #[.slice aY ny.length cY] 26)).heap.size (wf.alloc (.cells #[.slice aY ny.length cY] 26)) a0 len0) := codeIn_later HC.out hbb
                  clear hbb
                  go_wp2_with fail
                  obtain ⟨gY, HGQ⟩ : ∃ g, Hid (wf.heap.size = g) := ⟨_, rfl⟩
                  rw [HGQ.out] at VY ⊢
                  generalize wf.alloc (.cells #[.slice aY ny.length cY] 26) = wg at OA OK BA OH OG OX OY VX PX PY VY HB HC ⊢
                  obtain ⟨bX, hbX⟩ := IsR.some nx yx
                  obtain ⟨bY, hbY⟩ := IsR.some ny zy
                  have HBX : Hid (IsR nx yx bX) := hbX
                  have HBY : Hid (IsR ny zy bY) := hbY
                  have hbXl := hbX.len
                  clear hbX hbY
                  have hgl : gs.length = ns.length := HIS.out.len
                  refine wp_region_usedL (I := fun w' => Below wg.heap.size wg w') (R := fun _ w' w'' => Below w'.heap.size w' w'') (drop := fun _ => none)
                    (fs := #[⟨[189], fun vs _ => vs = [.slice (some ⟨bH, oH, none⟩) ns.length cH]⟩, ⟨[190], fun vs _ => vs = [.int .i64 (ns.length : Int)]⟩, ⟨[191], fun vs _ => vs = [.pointer (some ⟨w1.heap.size, 0, none⟩)]⟩, ⟨[192], fun vs _ => vs = [.slice (some ⟨bA, oA, none⟩) ns.length c1]⟩, ⟨[193], fun vs _ => vs = [.int .i64 (ns.length : Int)]⟩, ⟨[194], fun vs _ => vs = [.bool true]⟩, ⟨[195], fun vs _ => vs = [.bool true]⟩, ⟨[196], fun vs _ => vs = [.slice aG ns.length cG]⟩, ⟨[197], fun vs _ => vs = [.slice (some ⟨bH, oH, none⟩) ns.length cH]⟩, ⟨[198], fun vs _ => vs = [.bool true]⟩, ⟨[199], fun vs _ => vs = [.bool true]⟩, ⟨[200], fun vs _ => vs = [.bool true]⟩, ⟨[201], fun vs _ => vs = [.agg #[.slice aX nx.length cX]]⟩, ⟨[202], fun vs _ => vs = [.slice aK yx.length cK]⟩, ⟨[203], fun vs w' => ∃ v, vs = [v] ∧ OwnBool wg.heap.size w' v bX⟩, ⟨[204], fun vs _ => vs = [.agg #[.slice aX nx.length cX]]⟩, ⟨[205], fun vs _ => vs = [.slice aK yx.length cK]⟩, ⟨[206], fun vs w' => ∃ v, vs = [v] ∧ OwnBool wg.heap.size w' v bX⟩, ⟨[207], fun vs _ => vs = [.bool true]⟩, ⟨[208], fun vs _ => vs = [.bool true]⟩, ⟨[209], fun vs _ => vs = [.bool true]⟩, ⟨[210], fun vs _ => vs = [.agg #[.slice aY ny.length cY]]⟩, ⟨[211], fun vs _ => vs = [.slice aL2 zy.length cL2]⟩, ⟨[212], fun vs _ => vs = [.int .i64 kk]⟩, ⟨[213], fun vs _ => vs = [.bool (derB bY kk)]⟩, ⟨[214], fun vs _ => vs = [.agg #[.slice aY ny.length cY]]⟩, ⟨[215], fun vs _ => vs = [.slice aL2 zy.length cL2]⟩, ⟨[216], fun vs _ => vs = [.int .i64 kk]⟩, ⟨[217], fun vs _ => vs = [.bool (derB bY kk)]⟩, ⟨[218], fun vs _ => vs = [.bool true]⟩, ⟨[219], fun vs _ => vs = [.bool true]⟩, ⟨[2], fun vs _ => vs = [.bool true]⟩])
                    (by kernel_rfl) _ rfl (by kernel_rfl) ?stab ?istab ?start ?exec ?fin
                  case stab =>
                    intro k i f hki hf
                    have hk : k < 32 := (Array.getElem?_eq_some_iff.1 hf).1
                    rcases (show k = 0 ∨ k = 1 ∨ k = 2 ∨ k = 3 ∨ k = 4 ∨ k = 5 ∨ k = 6 ∨ k = 7 ∨ k = 8 ∨ k = 9 ∨ k = 10 ∨ k = 11 ∨ k = 12 ∨ k = 13 ∨ k = 14 ∨ k = 15 ∨ k = 16 ∨ k = 17 ∨ k = 18 ∨ k = 19 ∨ k = 20 ∨ k = 21 ∨ k = 22 ∨ k = 23 ∨ k = 24 ∨ k = 25 ∨ k = 26 ∨ k = 27 ∨ k = 28 ∨ k = 29 ∨ k = 30 ∨ k = 31 by omega) with rfl | rfl | rfl | rfl | rfl | rfl | rfl | rfl | rfl | rfl | rfl | rfl | rfl | rfl | rfl | rfl | rfl | rfl | rfl | rfl | rfl | rfl | rfl | rfl | rfl | rfl | rfl | rfl | rfl | rfl | rfl | rfl
                    all_goals
                      simp only [List.getElem?_toArray, List.getElem?_cons_succ, List.getElem?_cons_zero, Option.some.injEq] at hf
                      subst hf
                    · exact fun _ vs _ _ _ h => h
                    · exact fun _ vs _ _ _ h => h
                    · exact fun _ vs _ _ _ h => h
                    · exact fun _ vs _ _ _ h => h
                    · exact fun _ vs _ _ _ h => h
                    · exact fun _ vs _ _ _ h => h
                    · exact fun _ vs _ _ _ h => h
                    · exact fun _ vs _ _ _ h => h
                    · exact fun _ vs _ _ _ h => h
                    · exact fun _ vs _ _ _ h => h
                    · exact fun _ vs _ _ _ h => h
                    · exact fun _ vs _ _ _ h => h
                    · exact fun _ vs _ _ _ h => h
                    · exact fun _ vs _ _ _ h => h
                    · exact fun _ vs w' w'' hR ⟨v, h1, h2⟩ => ⟨v, h1, OwnBool.later h2 hR⟩
                    · exact fun _ vs _ _ _ h => h
                    · exact fun _ vs _ _ _ h => h
                    · exact fun _ vs w' w'' hR ⟨v, h1, h2⟩ => ⟨v, h1, OwnBool.later h2 hR⟩
                    · exact fun _ vs _ _ _ h => h
                    · exact fun _ vs _ _ _ h => h
                    · exact fun _ vs _ _ _ h => h
                    · exact fun _ vs _ _ _ h => h
                    · exact fun _ vs _ _ _ h => h
                    · exact fun _ vs _ _ _ h => h
                    · exact fun _ vs _ _ _ h => h
                    · exact fun _ vs _ _ _ h => h
                    · exact fun _ vs _ _ _ h => h
                    · exact fun _ vs _ _ _ h => h
                    · exact fun _ vs _ _ _ h => h
                    · exact fun _ vs _ _ _ h => h
                    · exact fun _ vs _ _ _ h => h
                    · exact fun _ vs _ _ _ h => h
                  case istab => exact fun i w' w'' hR h => h.trans (hR.mono h.size)
                  case start => exact (Below.refl _ _).drew
                  case exec =>
                    intro i o f hio hf act wq hsz hI hold hpre
                    replace hsz : 219 < act.tmps.size := by rw [hsz]; simp
                    have hi11 : i < 32 := (Array.getElem?_eq_some_iff.1 hio).1
                    rcases (show i = 0 ∨ i = 1 ∨ i = 2 ∨ i = 3 ∨ i = 4 ∨ i = 5 ∨ i = 6 ∨ i = 7 ∨ i = 8 ∨ i = 9 ∨ i = 10 ∨ i = 11 ∨ i = 12 ∨ i = 13 ∨ i = 14 ∨ i = 15 ∨ i = 16 ∨ i = 17 ∨ i = 18 ∨ i = 19 ∨ i = 20 ∨ i = 21 ∨ i = 22 ∨ i = 23 ∨ i = 24 ∨ i = 25 ∨ i = 26 ∨ i = 27 ∨ i = 28 ∨ i = 29 ∨ i = 30 ∨ i = 31 by omega) with rfl | rfl | rfl | rfl | rfl | rfl | rfl | rfl | rfl | rfl | rfl | rfl | rfl | rfl | rfl | rfl | rfl | rfl | rfl | rfl | rfl | rfl | rfl | rfl | rfl | rfl | rfl | rfl | rfl | rfl | rfl | rfl
                    all_goals
                      simp only [List.getElem?_toArray, List.getElem?_cons_succ, List.getElem?_cons_zero, Option.some.injEq] at hio hf
                      subst hio hf
                    · refine ⟨rfl, ?_⟩
                      have g5 : act.tmps.getD 5 undef = .slice (some ⟨bH, oH, none⟩) ns.length cH := hold 5 (free_spec (by kernel_rfl))
                      refine exec_same (v := .slice (some ⟨bH, oH, none⟩) ns.length cH) ?_ ⟨_, rfl, Below.refl _ _, at_one (by omega) rfl⟩
                      simp [go_sem, Act.eval, g5]
                    · refine ⟨rfl, ?_⟩
                      have g189 : act.tmps.getD 189 undef = .slice (some ⟨bH, oH, none⟩) ns.length cH := by have := of_one (hpre ⟨0, .data⟩ (by simp) rfl _ rfl (.inl rfl)); simpa using this
                      refine exec_same (v := .int .i64 (ns.length : Int)) ?_ ⟨_, rfl, Below.refl _ _, at_one (by omega) rfl⟩
                      simp [go_sem, Act.eval, g189]
                    · refine ⟨rfl, ?_⟩
                      have g3 : act.tmps.getD 3 undef = .pointer (some ⟨w1.heap.size, 0, none⟩) := hold 3 (free_spec (by kernel_rfl))
                      refine exec_same (v := .pointer (some ⟨w1.heap.size, 0, none⟩)) ?_ ⟨_, rfl, Below.refl _ _, at_one (by omega) rfl⟩
                      simp [go_sem, Act.eval, g3]
                    · refine ⟨rfl, ?_⟩
                      have g191 : act.tmps.getD 191 undef = .pointer (some ⟨w1.heap.size, 0, none⟩) := by have := of_one (hpre ⟨2, .data⟩ (by simp) rfl _ rfl (.inl rfl)); simpa using this
                      have hc := (BA.next hI).c
                      refine exec_same (v := .slice (some ⟨bA, oA, none⟩) ns.length c1) ?_ ⟨_, rfl, Below.refl _ _, at_one (by omega) rfl⟩
                      simp [go_sem, Act.eval, g191, hc]
                    · refine ⟨rfl, ?_⟩
                      have g192 : act.tmps.getD 192 undef = .slice (some ⟨bA, oA, none⟩) ns.length c1 := by have := of_one (hpre ⟨3, .data⟩ (by simp) rfl _ rfl (.inl rfl)); simpa using this
                      refine exec_same (v := .int .i64 (ns.length : Int)) ?_ ⟨_, rfl, Below.refl _ _, at_one (by omega) rfl⟩
                      simp [go_sem, Act.eval, g192]
                    · refine ⟨rfl, ?_⟩
                      have g190 : act.tmps.getD 190 undef = .int .i64 (ns.length : Int) := by have := of_one (hpre ⟨1, .data⟩ (by simp) rfl _ rfl (.inl rfl)); simpa using this
                      have g193 : act.tmps.getD 193 undef = .int .i64 (ns.length : Int) := by have := of_one (hpre ⟨4, .data⟩ (by simp) rfl _ rfl (.inl rfl)); simpa using this
                      refine exec_same (v := .bool true) ?_ ⟨_, rfl, Below.refl _ _, at_one (by omega) rfl⟩
                      simp [go_sem, Act.eval, g190, g193]
                    · refine ⟨rfl, ?_⟩
                      have g194 : act.tmps.getD 194 undef = .bool true := by have := of_one (hpre ⟨5, .data⟩ (by simp) rfl _ rfl (.inl rfl)); simpa using this
                      refine exec_same (v := .bool true) ?_ ⟨_, rfl, Below.refl _ _, at_one (by omega) rfl⟩
                      simp [go_sem, Act.eval, g194]
                    · have hgd : act.tmps.getD 195 undef = .bool true := by have := of_one (hpre ⟨6, .guard⟩ (by simp) rfl _ rfl (.inl rfl)); simpa using this
                      refine ⟨wanted_yes rfl rfl hgd, ?_⟩
                      have g10 : act.tmps.getD 10 undef = .slice aG ns.length cG := hold 10 (free_spec (by kernel_rfl))
                      refine exec_same (v := .slice aG ns.length cG) ?_ ⟨_, rfl, Below.refl _ _, at_one (by omega) rfl⟩
                      simp [go_sem, Act.eval, g10]
                    · have hgd : act.tmps.getD 195 undef = .bool true := by have := of_one (hpre ⟨6, .guard⟩ (by simp) rfl _ rfl (.inl rfl)); simpa using this
                      refine ⟨wanted_yes rfl rfl hgd, ?_⟩
                      have g5 : act.tmps.getD 5 undef = .slice (some ⟨bH, oH, none⟩) ns.length cH := hold 5 (free_spec (by kernel_rfl))
                      refine exec_same (v := .slice (some ⟨bH, oH, none⟩) ns.length cH) ?_ ⟨_, rfl, Below.refl _ _, at_one (by omega) rfl⟩
                      simp [go_sem, Act.eval, g5]
                    · have hgd : act.tmps.getD 195 undef = .bool true := by have := of_one (hpre ⟨6, .guard⟩ (by simp) rfl _ rfl (.inl rfl)); simpa using this
                      refine ⟨wanted_yes rfl rfl hgd, ?_⟩
                      have g196 : act.tmps.getD 196 undef = .slice aG ns.length cG := by have := of_one (hpre ⟨7, .data⟩ (by simp) rfl _ rfl (.inl rfl)); simpa using this
                      have g197 : act.tmps.getD 197 undef = .slice (some ⟨bH, oH, none⟩) ns.length cH := by have := of_one (hpre ⟨8, .data⟩ (by simp) rfl _ rfl (.inl rfl)); simpa using this
                      refine exec_call (f := 16) (args := #[.slice aG ns.length cG, .slice (some ⟨bH, oH, none⟩) ns.length cH]) (by simp [go_sem, Act.eval, g196, g197]) ?_
                      have hsb := sameBools_same aG (some ⟨bH, oH, none⟩) cG cH gs wq (by omega) (OG.next hI).rowAt (OH.next hI).rowAt
                      rw [hgl] at hsb
                      refine hsb.mono ?_
                      rintro e w' ⟨rfl, hb⟩
                      exact ⟨_, rfl, _, rfl, hb, at_one (by omega) rfl⟩
                    · refine ⟨rfl, ?_⟩
                      have g195 : act.tmps.getD 195 undef = .bool true := by have := of_one (hpre ⟨6, .data⟩ (by simp) rfl _ rfl (.inl rfl)); simpa using this
                      have g198 : act.tmps.getD 198 undef = .bool true := by have := of_one (hpre ⟨9, .data⟩ (by simp) rfl _ rfl (.inl rfl)); simpa using this
                      refine exec_same (v := .bool true) ?_ ⟨_, rfl, Below.refl _ _, at_one (by omega) rfl⟩
                      simp [go_sem, Act.eval, g195, g198]
                    · refine ⟨rfl, ?_⟩
                      have g199 : act.tmps.getD 199 undef = .bool true := by have := of_one (hpre ⟨10, .data⟩ (by simp) rfl _ rfl (.inl rfl)); simpa using this
                      refine exec_same (v := .bool true) ?_ ⟨_, rfl, Below.refl _ _, at_one (by omega) rfl⟩
                      simp [go_sem, Act.eval, g199]
                    · have hgd : act.tmps.getD 200 undef = .bool true := by have := of_one (hpre ⟨11, .guard⟩ (by simp) rfl _ rfl (.inl rfl)); simpa using this
                      refine ⟨wanted_yes rfl rfl hgd, ?_⟩
                      have g14 : act.tmps.getD 14 undef = .pointer (some ⟨gX, 0, none⟩) := hold 14 (free_spec (by kernel_rfl))
                      have hc := (VX.next hI).c
                      refine exec_same (v := .agg #[.slice aX nx.length cX]) ?_ ⟨_, rfl, Below.refl _ _, at_one (by omega) rfl⟩
                      simp [go_sem, Act.eval, g14, hc]
                    · have hgd : act.tmps.getD 200 undef = .bool true := by have := of_one (hpre ⟨11, .guard⟩ (by simp) rfl _ rfl (.inl rfl)); simpa using this
                      refine ⟨wanted_yes rfl rfl hgd, ?_⟩
                      have g15 : act.tmps.getD 15 undef = .slice aK yx.length cK := hold 15 (free_spec (by kernel_rfl))
                      refine exec_same (v := .slice aK yx.length cK) ?_ ⟨_, rfl, Below.refl _ _, at_one (by omega) rfl⟩
                      simp [go_sem, Act.eval, g15]
                    · have hgd : act.tmps.getD 200 undef = .bool true := by have := of_one (hpre ⟨11, .guard⟩ (by simp) rfl _ rfl (.inl rfl)); simpa using this
                      refine ⟨wanted_yes rfl rfl hgd, ?_⟩
                      have g201 : act.tmps.getD 201 undef = .agg #[.slice aX nx.length cX] := by have := of_one (hpre ⟨12, .data⟩ (by simp) rfl _ rfl (.inl rfl)); simpa using this
                      have g202 : act.tmps.getD 202 undef = .slice aK yx.length cK := by have := of_one (hpre ⟨13, .data⟩ (by simp) rfl _ rfl (.inl rfl)); simpa using this
                      refine exec_call (f := 11) (args := #[.agg #[.slice aX nx.length cX], .slice aK yx.length cK]) (by simp [go_sem, Act.eval, g201, g202]) ?_
                      refine (implReach_any cX cK aX aK nx yx wq (by omega) (by omega) HFX.out HFY.out (OX.next hI).rowAt (OY.next hI).rowAt).mono ?_
                      rintro e w' ⟨v', ms', rfl, hms, hom, hb⟩
                      have em : ms' = bX := hms.one HBX.out
                      rw [em] at hom
                      exact ⟨_, rfl, _, rfl, hb, at_one (by omega) ⟨v', rfl, hom.base hI.size⟩⟩
                    · have hgd : act.tmps.getD 200 undef = .bool true := by have := of_one (hpre ⟨11, .guard⟩ (by simp) rfl _ rfl (.inl rfl)); simpa using this
                      refine ⟨wanted_yes rfl rfl hgd, ?_⟩
                      have g14 : act.tmps.getD 14 undef = .pointer (some ⟨gX, 0, none⟩) := hold 14 (free_spec (by kernel_rfl))
                      have hc := (VX.next hI).c
                      refine exec_same (v := .agg #[.slice aX nx.length cX]) ?_ ⟨_, rfl, Below.refl _ _, at_one (by omega) rfl⟩
                      simp [go_sem, Act.eval, g14, hc]
                    · have hgd : act.tmps.getD 200 undef = .bool true := by have := of_one (hpre ⟨11, .guard⟩ (by simp) rfl _ rfl (.inl rfl)); simpa using this
                      refine ⟨wanted_yes rfl rfl hgd, ?_⟩
                      have g15 : act.tmps.getD 15 undef = .slice aK yx.length cK := hold 15 (free_spec (by kernel_rfl))
                      refine exec_same (v := .slice aK yx.length cK) ?_ ⟨_, rfl, Below.refl _ _, at_one (by omega) rfl⟩
                      simp [go_sem, Act.eval, g15]
                    · have hgd : act.tmps.getD 200 undef = .bool true := by have := of_one (hpre ⟨11, .guard⟩ (by simp) rfl _ rfl (.inl rfl)); simpa using this
                      refine ⟨wanted_yes rfl rfl hgd, ?_⟩
                      have g204 : act.tmps.getD 204 undef = .agg #[.slice aX nx.length cX] := by have := of_one (hpre ⟨15, .data⟩ (by simp) rfl _ rfl (.inl rfl)); simpa using this
                      have g205 : act.tmps.getD 205 undef = .slice aK yx.length cK := by have := of_one (hpre ⟨16, .data⟩ (by simp) rfl _ rfl (.inl rfl)); simpa using this
                      refine exec_call (f := 17) (args := #[.agg #[.slice aX nx.length cX], .slice aK yx.length cK]) (by simp [go_sem, Act.eval, g204, g205]) ?_
                      refine (specReach_any cX cK aX aK nx yx wq (by omega) (by omega) (OX.next hI).rowAt (OY.next hI).rowAt).mono ?_
                      rintro e w' ⟨v', ms', rfl, hms, hom, hb⟩
                      have em : ms' = bX := hms.one HBX.out
                      rw [em] at hom
                      exact ⟨_, rfl, _, rfl, hb, at_one (by omega) ⟨v', rfl, hom.base hI.size⟩⟩
                    · have hgd : act.tmps.getD 200 undef = .bool true := by have := of_one (hpre ⟨11, .guard⟩ (by simp) rfl _ rfl (.inl rfl)); simpa using this
                      refine ⟨wanted_yes rfl rfl hgd, ?_⟩
                      obtain ⟨v1, e1, ho1⟩ := of_one (hpre ⟨14, .data⟩ (by simp) rfl _ rfl (.inl rfl))
                      obtain ⟨v2, e2, ho2⟩ := of_one (hpre ⟨17, .data⟩ (by simp) rfl _ rfl (.inl rfl))
                      obtain ⟨a3, c3, rfl, -, hr3⟩ := ho1.row
                      obtain ⟨a4, c4, rfl, -, hr4⟩ := ho2.row
                      have g203 : act.tmps.getD 203 undef = .slice a3 bX.length c3 := by simpa using e1
                      have g206 : act.tmps.getD 206 undef = .slice a4 bX.length c4 := by simpa using e2
                      refine exec_call (f := 16) (args := #[.slice a3 bX.length c3, .slice a4 bX.length c4]) (by simp [go_sem, Act.eval, g203, g206]) ?_
                      refine (sameBools_same a3 a4 c3 c4 bX wq (by omega) hr3 hr4).mono ?_
                      rintro e w' ⟨rfl, hb⟩
                      exact ⟨_, rfl, _, rfl, hb, at_one (by omega) rfl⟩
                    · refine ⟨rfl, ?_⟩
                      have g200 : act.tmps.getD 200 undef = .bool true := by have := of_one (hpre ⟨11, .data⟩ (by simp) rfl _ rfl (.inl rfl)); simpa using this
                      have g207 : act.tmps.getD 207 undef = .bool true := by have := of_one (hpre ⟨18, .data⟩ (by simp) rfl _ rfl (.inl rfl)); simpa using this
                      refine exec_same (v := .bool true) ?_ ⟨_, rfl, Below.refl _ _, at_one (by omega) rfl⟩
                      simp [go_sem, Act.eval, g200, g207]
                    · refine ⟨rfl, ?_⟩
                      have g208 : act.tmps.getD 208 undef = .bool true := by have := of_one (hpre ⟨19, .data⟩ (by simp) rfl _ rfl (.inl rfl)); simpa using this
                      refine exec_same (v := .bool true) ?_ ⟨_, rfl, Below.refl _ _, at_one (by omega) rfl⟩
                      simp [go_sem, Act.eval, g208]
                    · have hgd : act.tmps.getD 209 undef = .bool true := by have := of_one (hpre ⟨20, .guard⟩ (by simp) rfl _ rfl (.inl rfl)); simpa using this
                      refine ⟨wanted_yes rfl rfl hgd, ?_⟩
                      have g16 : act.tmps.getD 16 undef = .pointer (some ⟨gY, 0, none⟩) := hold 16 (free_spec (by kernel_rfl))
                      have hc := (VY.next hI).c
                      refine exec_same (v := .agg #[.slice aY ny.length cY]) ?_ ⟨_, rfl, Below.refl _ _, at_one (by omega) rfl⟩
                      simp [go_sem, Act.eval, g16, hc]
                    · have hgd : act.tmps.getD 209 undef = .bool true := by have := of_one (hpre ⟨20, .guard⟩ (by simp) rfl _ rfl (.inl rfl)); simpa using this
                      refine ⟨wanted_yes rfl rfl hgd, ?_⟩
                      have g17 : act.tmps.getD 17 undef = .slice aL2 zy.length cL2 := hold 17 (free_spec (by kernel_rfl))
                      refine exec_same (v := .slice aL2 zy.length cL2) ?_ ⟨_, rfl, Below.refl _ _, at_one (by omega) rfl⟩
                      simp [go_sem, Act.eval, g17]
                    · have hgd : act.tmps.getD 209 undef = .bool true := by have := of_one (hpre ⟨20, .guard⟩ (by simp) rfl _ rfl (.inl rfl)); simpa using this
                      refine ⟨wanted_yes rfl rfl hgd, ?_⟩
                      have g18 : act.tmps.getD 18 undef = .int .i64 kk := hold 18 (free_spec (by kernel_rfl))
                      refine exec_same (v := .int .i64 kk) ?_ ⟨_, rfl, Below.refl _ _, at_one (by omega) rfl⟩
                      simp [go_sem, Act.eval, g18]
                    · have hgd : act.tmps.getD 209 undef = .bool true := by have := of_one (hpre ⟨20, .guard⟩ (by simp) rfl _ rfl (.inl rfl)); simpa using this
                      refine ⟨wanted_yes rfl rfl hgd, ?_⟩
                      have g210 : act.tmps.getD 210 undef = .agg #[.slice aY ny.length cY] := by have := of_one (hpre ⟨21, .data⟩ (by simp) rfl _ rfl (.inl rfl)); simpa using this
                      have g211 : act.tmps.getD 211 undef = .slice aL2 zy.length cL2 := by have := of_one (hpre ⟨22, .data⟩ (by simp) rfl _ rfl (.inl rfl)); simpa using this
                      have g212 : act.tmps.getD 212 undef = .int .i64 kk := by have := of_one (hpre ⟨23, .data⟩ (by simp) rfl _ rfl (.inl rfl)); simpa using this
                      refine exec_call (f := 13) (args := #[.agg #[.slice aY ny.length cY], .slice aL2 zy.length cL2, .int .i64 kk]) (by simp [go_sem, Act.eval, g210, g211, g212]) ?_
                      refine (implDerives_any cY cL2 aY aL2 ny zy kk wq (by omega) (by omega) HGY.out HGZ.out (PX.next hI).rowAt (PY.next hI).rowAt).mono ?_
                      rintro e w' ⟨ms', hms, rfl, hb⟩
                      have em : ms' = bY := hms.one HBY.out
                      rw [em]
                      exact ⟨_, rfl, _, rfl, hb, at_one (by omega) rfl⟩
                    · have hgd : act.tmps.getD 209 undef = .bool true := by have := of_one (hpre ⟨20, .guard⟩ (by simp) rfl _ rfl (.inl rfl)); simpa using this
                      refine ⟨wanted_yes rfl rfl hgd, ?_⟩
                      have g16 : act.tmps.getD 16 undef = .pointer (some ⟨gY, 0, none⟩) := hold 16 (free_spec (by kernel_rfl))
                      have hc := (VY.next hI).c
                      refine exec_same (v := .agg #[.slice aY ny.length cY]) ?_ ⟨_, rfl, Below.refl _ _, at_one (by omega) rfl⟩
                      simp [go_sem, Act.eval, g16, hc]
                    · have hgd : act.tmps.getD 209 undef = .bool true := by have := of_one (hpre ⟨20, .guard⟩ (by simp) rfl _ rfl (.inl rfl)); simpa using this
                      refine ⟨wanted_yes rfl rfl hgd, ?_⟩
                      have g17 : act.tmps.getD 17 undef = .slice aL2 zy.length cL2 := hold 17 (free_spec (by kernel_rfl))
                      refine exec_same (v := .slice aL2 zy.length cL2) ?_ ⟨_, rfl, Below.refl _ _, at_one (by omega) rfl⟩
                      simp [go_sem, Act.eval, g17]
                    · have hgd : act.tmps.getD 209 undef = .bool true := by have := of_one (hpre ⟨20, .guard⟩ (by simp) rfl _ rfl (.inl rfl)); simpa using this
                      refine ⟨wanted_yes rfl rfl hgd, ?_⟩
                      have g18 : act.tmps.getD 18 undef = .int .i64 kk := hold 18 (free_spec (by kernel_rfl))
                      refine exec_same (v := .int .i64 kk) ?_ ⟨_, rfl, Below.refl _ _, at_one (by omega) rfl⟩
                      simp [go_sem, Act.eval, g18]
                    · have hgd : act.tmps.getD 209 undef = .bool true := by have := of_one (hpre ⟨20, .guard⟩ (by simp) rfl _ rfl (.inl rfl)); simpa using this
                      refine ⟨wanted_yes rfl rfl hgd, ?_⟩
                      have g214 : act.tmps.getD 214 undef = .agg #[.slice aY ny.length cY] := by have := of_one (hpre ⟨25, .data⟩ (by simp) rfl _ rfl (.inl rfl)); simpa using this
                      have g215 : act.tmps.getD 215 undef = .slice aL2 zy.length cL2 := by have := of_one (hpre ⟨26, .data⟩ (by simp) rfl _ rfl (.inl rfl)); simpa using this
                      have g216 : act.tmps.getD 216 undef = .int .i64 kk := by have := of_one (hpre ⟨27, .data⟩ (by simp) rfl _ rfl (.inl rfl)); simpa using this
                      refine exec_call (f := 18) (args := #[.agg #[.slice aY ny.length cY], .slice aL2 zy.length cL2, .int .i64 kk]) (by simp [go_sem, Act.eval, g214, g215, g216]) ?_
                      refine (specDerives_any cY cL2 aY aL2 ny zy kk wq (by omega) (by omega) (PX.next hI).rowAt (PY.next hI).rowAt).mono ?_
                      rintro e w' ⟨ms', hms, rfl, hb⟩
                      have em : ms' = bY := hms.one HBY.out
                      rw [em]
                      exact ⟨_, rfl, _, rfl, hb, at_one (by omega) rfl⟩
                    · have hgd : act.tmps.getD 209 undef = .bool true := by have := of_one (hpre ⟨20, .guard⟩ (by simp) rfl _ rfl (.inl rfl)); simpa using this
                      refine ⟨wanted_yes rfl rfl hgd, ?_⟩
                      have g213 : act.tmps.getD 213 undef = .bool (derB bY kk) := by have := of_one (hpre ⟨24, .data⟩ (by simp) rfl _ rfl (.inl rfl)); simpa using this
                      have g217 : act.tmps.getD 217 undef = .bool (derB bY kk) := by have := of_one (hpre ⟨28, .data⟩ (by simp) rfl _ rfl (.inl rfl)); simpa using this
                      refine exec_same (v := .bool true) ?_ ⟨_, rfl, Below.refl _ _, at_one (by omega) rfl⟩
                      simp [go_sem, Act.eval, g213, g217]
                    · refine ⟨rfl, ?_⟩
                      have g209 : act.tmps.getD 209 undef = .bool true := by have := of_one (hpre ⟨20, .data⟩ (by simp) rfl _ rfl (.inl rfl)); simpa using this
                      have g218 : act.tmps.getD 218 undef = .bool true := by have := of_one (hpre ⟨29, .data⟩ (by simp) rfl _ rfl (.inl rfl)); simpa using this
                      refine exec_same (v := .bool true) ?_ ⟨_, rfl, Below.refl _ _, at_one (by omega) rfl⟩
                      simp [go_sem, Act.eval, g209, g218]
                    · refine ⟨rfl, ?_⟩
                      have g219 : act.tmps.getD 219 undef = .bool true := by have := of_one (hpre ⟨30, .data⟩ (by simp) rfl _ rfl (.inl rfl)); simpa using this
                      refine exec_same (v := .bool true) ?_ ⟨_, rfl, Below.refl _ _, at_one (by omega) rfl⟩
                      simp [go_sem, Act.eval, g219]
                  case fin =>
                    intro zs wz hzl hI hF
                    obtain ⟨z0, z1, z2, z3, z4, z5, z6, z7, z8, z9, z10, z11, z12, z13, z14, z15, z16, z17, z18, z19, z20, z21, z22, z23, z24, z25, z26, z27, z28, z29, z30, z31, rfl⟩ := list32 zs hzl
                    obtain rfl : z31 = .bool true := last_is (i := 31) (by have := of_one (hF 31 _ rfl rfl); simpa using this) (by kernel_rfl) rfl rfl (by simp)
                    have HBF : Hid (Below w.heap.size w wz) := HB.out.trans (hI.mono HB.out.size)
                    clear hF hzl hI
                    simp only [putAll, Act.put, List.setIfInBounds_toArray, List.set_cons_succ, List.set_cons_zero]
                    go_wp2
                    go_ret
                    exact ⟨rfl, HBF.out⟩
  · have hd : decide ((1048576 : Int) < (len0 : Int)) = true := by simp; omega
    clear hcode
    go_enter Try.func3, Try.ntmps3
    go_wp2_with fail
    refine (big_any _ _ _ _).mono ?_
    rintro e w1 ⟨rfl, rfl⟩
    rw [hd]
    go_wp2
    go_ret
    exact ⟨rfl, Below.refl _ _⟩

theorem laidOut : laidOutB Try.prog = true := by kernel_rfl
set_option maxRecDepth 100000 in
theorem lifted (os : Os) (started : os.Started) (H : Type) (enc : TypeId × Value → H) :
    ReturnsInHanded {} Try.checked os 3 .any (Rows.fnReachesSpec.pre6 enc Try.prog Try.f3 Rows.fnReachesRow.domain false) (Rows.fnReachesSpec.post enc Try.prog Try.f3 false true false false) := by
  refine returnsInHanded_of_change (C := Try.checked) own started (by kernel_rfl) Try.func3
    (ChangeSpec.witness6 (enc := enc) (C := Try.checked) false ⟨#[], #[.slice none 0 0], []⟩ 8 (by kernel_rfl) (by kernel_rfl) (by kernel_rfl) (by kernel_rfl)) ?_
  intro W base args ds gs before hval0 hW hcnd _
  have hval : ∀ (j : Nat) t v, Try.f3.params[j]? = some t → args[j]? = some v → Value.okWide Try.prog W .any base t v := hval0
  have hW' := hW
  obtain ⟨p, q, hA0, hV, rfl, hfz, hnd⟩ := hW
  have hA : DataW.TrodAll enc Try.prog W 0 (fun _ => true) true Try.f3.params.toList args.toList ds p := hA0
  rw [Try.params3] at hA hval
  obtain ⟨v0, vs0, d0, ds0, p0, q0, hargs, rfl, rfl, h0, r0⟩ := trodAll_cons hA
  obtain ⟨rfl, rfl, rfl⟩ := trodAll_nil r0
  obtain rfl : args = #[v0] := by cases args; simp_all
  obtain ⟨rfl, rfl⟩ := trodVars_none hV
  obtain ⟨a0, len0, cap0, rfl⟩ := okWide_slice Try.underlying22 (hval 0 22 v0 rfl rfl)
  have k0 := h0
  have lt0 : ∀ x ∈ p0, x.block < W.heap.size := by obtain ⟨m, hm⟩ := k0; exact DataW.trod_lt m _ _ _ hm
  clear hA0 hval0
  refine (walk a0 len0 cap0  W (code_of h0)).mono fun e W' ⟨he, bel⟩ => ?_
  subst he
  exact ⟨_, rfl, _, _, _, [], _, [], hW', trodAll_mk1 (shut_bool Try.underlying4 _), (trodAll_cons_mk (Below.trod laidOut (by kernel_rfl) (of_decide_eq_true (by kernel_rfl)) k0 bel lt0) trodAll_mk0), rfl, bel.frame _, fun h => by cases h⟩

theorem over : Rows.fnReachesRow.holds Try.pinned (OpenSpec.ofChange Rows.fnReachesSpec) :=
  OpenClaim.holds_of_wide 3 Try.f3 rfl rfl rfl rfl rfl rfl rfl ⟨rfl, rfl, rfl, rfl, rfl⟩ rfl rfl rfl rfl rfl (by kernel_rfl) Try.func3 (by kernel_rfl)
    (of_decide_eq_true (by kernel_rfl)) (by unfold Func.isWrapper; first | (rw [if_pos (by decide +kernel)]; kernel_rfl) | (rw [if_neg (by decide +kernel)]; exact ⟨rfl, rfl⟩))
    (fun os started H enc _ => lifted os started H enc)
end fnReaches

theorem fnReaches_holds : Rows.FnReachesSaid := fnReaches.over
#print axioms fnReaches_holds
end Go.Proofs.Ytcmmbehnihelcaa
