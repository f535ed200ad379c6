/- The contract of chapter 5's reacherOf, the program's. -/
import Derived.Test.YtcmmbehnihelcaaReachQ
import Derived.Test.YtcmmbehnihelcaaImplR
import Derived.Test.YtcmmbehnihelcaaRegionN
import Derived.WalkKit
import Derived.WalkLawsBesides
import Derived.WalkSpells
import Derived.OwnWalk
import Derived.Laws.Rows
import Derived.BigRegion
import Derived.Deep.OwnRows
import Derived.Deep.DeepCutAuto
import Derived.Deep.RegionLaw
import Derived.Deep.AppendLies
namespace Go.Proofs.Ytcmmbehnihelcaa
open Go.RowKit
set_option linter.unusedVariables false
theorem infoB5 : (Try.prog.info? 4).map (fun i => (i.zero, i.size, i.bytes)) = some (some (.bool false), 1, 1) := by kernel_rfl
theorem infoI5 : (Try.prog.info? 3).map (fun i => (i.zero, i.size, i.bytes)) = some (some (.int .i64 0), 1, 8) := by kernel_rfl
theorem infoS5 : (Try.prog.info? 27).map (fun i => (i.zero, i.size, i.bytes)) = some (some (.slice none 0 0), 1, 24) := by kernel_rfl
theorem made_row (z : Value) (n : Nat) : (madeCells #[z] n).toList = List.replicate n z := by
  have h : ∀ m : Nat, List.map (fun x => [z][x % 1]?.getD default) (List.range m) = List.replicate m z := fun m => by
    apply List.ext_getElem (by simp)
    intro i h1 h2
    simp [Nat.mod_one]
  simpa [madeCells] using h n
theorem four (w : World) (o1 o2 o3 o4 : Obj) : ((((w.alloc o1).alloc o2).alloc o3).alloc o4).drew.heap[w.heap.size]? = some o1 ∧ ((((w.alloc o1).alloc o2).alloc o3).alloc o4).drew.heap[w.heap.size + 1]? = some o2 ∧ ((((w.alloc o1).alloc o2).alloc o3).alloc o4).drew.heap[w.heap.size + 2]? = some o3 ∧ ((((w.alloc o1).alloc o2).alloc o3).alloc o4).drew.heap[w.heap.size + 3]? = some o4 ∧ ((((w.alloc o1).alloc o2).alloc o3).alloc o4).drew.heap.size = w.heap.size + 4 ∧ Below w.heap.size w ((((w.alloc o1).alloc o2).alloc o3).alloc o4).drew := by
  refine ⟨?_, ?_, ?_, ?_, by simp, ((((Below.refl _ _).alloc (Nat.le_refl _) _).alloc (by simp) _).alloc (by simp <;> omega) _).alloc (by simp <;> omega) _ |>.drew⟩
  · rw [heap_drew, heap_alloc_old _ _ (by simp <;> omega), heap_alloc_old _ _ (by simp <;> omega), heap_alloc_old _ _ (by simp), heap_alloc_new]
  · rw [heap_drew, heap_alloc_old _ _ (by simp <;> omega), heap_alloc_old _ _ (by simp)]; have := heap_alloc_new (w.alloc o1) o2; simpa using this
  · rw [heap_drew, heap_alloc_old _ _ (by simp)]; have := heap_alloc_new ((w.alloc o1).alloc o2) o3; simpa using this
  · rw [heap_drew]; have := heap_alloc_new (((w.alloc o1).alloc o2).alloc o3) o4; simpa using this
theorem row_of {w : World} {g n e : Nat} {z : Value} (hn : n ≤ 3000) (h : w.heap[g]? = some (.cells (madeCells #[z] n) e (0, 0))) : w.ownsRow 0 e 1 (.slice (some ⟨g, 0, none⟩) n n) n (List.replicate n z) := by
  have hm := made_row z n
  refine ⟨by simp, .inr ⟨g, n, _, rfl, Nat.zero_le _, h, Nat.le_refl _, by unfold maxLen; omega, ?_, ?_⟩⟩
  · have : (madeCells #[z] n).toList.length = n := by rw [hm]; simp
    simpa using this
  · rw [hm, List.take_of_length_le (by simp)]
theorem Bd.start {w wc : World} {h ub pb n ca : Nat} {a : Option Addr} (hn : n ≤ 3000) (hs : wc.heap.size = w.heap.size + 4) (hb : Below w.heap.size w wc) (h1 : w.heap.size ≤ h ∧ h < w.heap.size + 3) (u1 : w.heap.size ≤ ub ∧ ub < w.heap.size + 3) (p1 : w.heap.size ≤ pb ∧ pb < w.heap.size + 3) (ne : h ≠ ub ∧ h ≠ pb ∧ ub ≠ pb)
    (hB : wc.heap[h]? = some (.cells (madeCells #[.bool false] n) 4 (0, 0))) (hS : wc.heap[ub]? = some (.cells (madeCells #[.slice none 0 0] n) 27 (0, 0))) (hI : wc.heap[pb]? = some (.cells (madeCells #[.int .i64 0] n) 3 (0, 0)))
    (hg : wc.heap[w.heap.size + 3]? = some (.cells #[.slice a n ca, .slice (some ⟨h, 0, none⟩) n n, .slice (some ⟨ub, 0, none⟩) n n, .slice (some ⟨pb, 0, none⟩) n n, .pointer none, .pointer none] 75 (0, 0))) :
    Bd w (w.heap.size + 3) h ub pb n ca a (List.replicate n nilS) (List.replicate n []) (List.replicate n 0) [] wc := by
  have hv : ∀ j, (List.replicate n nilS).getD j nilS = nilS := fun j => by rw [List.getD_eq_getElem?_getD, List.getElem?_replicate]; split <;> rfl
  have hu : ∀ j, (List.replicate n ([] : List Nat)).getD j [] = [] := fun j => by rw [List.getD_eq_getElem?_getD, List.getElem?_replicate]; split <;> rfl
  refine ⟨hb, by omega, rfl, h1, u1, p1, ne, hg, ?_, ?_, by simp, row_of hn hS, fun j hj => ?_, fun i j _ _ _ b e => ?_, fun z o hz => by simp at hz⟩
  · have := row_of hn hB; unfold BoolsAt; rw [List.map_replicate]; exact this
  · have := row_of hn hI; rw [List.map_replicate]; exact this
  · rw [hv, hu]; exact ⟨rfl, .inl ⟨rfl, rfl⟩⟩
  · rw [hv] at e; simp [nilS, Value.ownBlock] at e
theorem Bd.val {w : World} {g h ub pb n ca : Nat} {a : Option Addr} {vs : List Value} {us : List (List Nat)} {ps : List Int} {ks : List (Nat × Obj)} {wr : World} (s : Bd w g h ub pb n ca a vs us ps ks wr) {j : Nat} (hj : j < n) : ∃ ad cap, vs.getD j nilS = .slice ad (us.getD j []).length cap := by
  rcases (s.rows j hj).2 with ⟨e1, e2⟩ | ⟨gg, cap, cur, e, _⟩
  · exact ⟨none, 0, by rw [e1, e2]⟩
  · exact ⟨_, _, e⟩
theorem Bd.cu {w : World} {g h ub pb n ca : Nat} {a : Option Addr} {vs : List Value} {us : List (List Nat)} {ps : List Int} {ks : List (Nat × Obj)} {wr : World} (s : Bd w g h ub pb n ca a vs us ps ks wr) {j : Nat} (hj : j < n) : wr.cell? ⟨ub, j, none⟩ = some (vs.getD j nilS) := by
  rw [World.ownsRow.cellAt s.row j (by omega), List.getElem?_eq_getElem (by rw [s.vsl]; exact hj), List.getD_eq_getElem?_getD, List.getElem?_eq_getElem (by rw [s.vsl]; exact hj)]; rfl
theorem Bd.cp {w : World} {g h ub pb n ca : Nat} {a : Option Addr} {vs : List Value} {us : List (List Nat)} {ps : List Int} {ks : List (Nat × Obj)} {wr : World} (s : Bd w g h ub pb n ca a vs us ps ks wr) {j : Nat} (hj : j < n) : wr.cell? ⟨pb, j, none⟩ = some (.int .i64 (ps.getD j 0)) := by
  rw [World.ownsRow.cellAt s.pubs j (by omega), List.getElem?_map, List.getElem?_eq_getElem (by rw [s.psl]; exact hj), List.getD_eq_getElem?_getD, List.getElem?_eq_getElem (by rw [s.psl]; exact hj)]; rfl
theorem Bd.c2 {w : World} {g h ub pb n ca : Nat} {a : Option Addr} {vs : List Value} {us : List (List Nat)} {ps : List Int} {ks : List (Nat × Obj)} {wr : World} (s : Bd w g h ub pb n ca a vs us ps ks wr) : wr.cell? ⟨g, 2, none⟩ = some (.slice (some ⟨ub, 0, none⟩) n n) := (cell_of_row _ _ 2 _ _ _ s.blk).trans rfl
theorem Bd.c3 {w : World} {g h ub pb n ca : Nat} {a : Option Addr} {vs : List Value} {us : List (List Nat)} {ps : List Int} {ks : List (Nat × Obj)} {wr : World} (s : Bd w g h ub pb n ca a vs us ps ks wr) : wr.cell? ⟨g, 3, none⟩ = some (.slice (some ⟨pb, 0, none⟩) n n) := (cell_of_row _ _ 3 _ _ _ s.blk).trans rfl
theorem Bd.tail {w : World} {g h ub pb n ca : Nat} {a : Option Addr} {vs : List Value} {us : List (List Nat)} {ps : List Int} {k : Nat × Obj} {ks : List (Nat × Obj)} {wr : World} (s : Bd w g h ub pb n ca a vs us ps (k :: ks) wr) : Bd w g h ub pb n ca a vs us ps ks wr :=
  ⟨s.bel, s.size, s.g1, s.h1, s.u1, s.p1, s.ne, s.blk, s.had, s.pubs, s.usl, s.row, s.rows, s.apart, fun z o hz => s.boxes z o (by simp [hz])⟩
/-- The world at a row's growing: what stays. -/
theorem Bd.grow {w : World} {g h ub pb n ca : Nat} {a : Option Addr} {vs : List Value} {us : List (List Nat)} {ps : List Int} {ks : List (Nat × Obj)} {wr w2 w4 : World} (s : Bd w g h ub pb n ca a vs us ps ks wr) (hb : Below wr.heap.size wr w2) {j : Nat} (hj : j < n) (hg : w2.grownBy w4 (vs.getD j nilS).ownBlock) :
    w4.cell? ⟨g, 2, none⟩ = some (.slice (some ⟨ub, 0, none⟩) n n) ∧ w4.cell? ⟨ub, j, none⟩ = some (vs.getD j nilS) ∧ w4.frozen? ⟨ub, j, none⟩ = false ∧ ∀ z o, (z, o) ∈ ks → w4.heap[z]? = some o := by
  have t := s.next hb
  have hlow : ∀ b, (vs.getD j nilS).ownBlock = some b → w.heap.size + 4 ≤ b := fun b e => (World.ownsRow.lt (t.rows j hj) _ e).1
  have far : ∀ b, b < w.heap.size + 4 → some b ≠ (vs.getD j nilS).ownBlock := fun b hb e => by have := hlow b e.symm; omega
  have hg1 := s.g1
  have hu1 := s.u1
  have hz := t.size
  have hrow := World.ownsRow.kept t.row hg (.inr (far ub (by omega)))
  refine ⟨(World.cell?_of_block (w := w2) (a := ⟨g, 2, none⟩) (hg.block g (by omega) (far g (by omega)))).trans t.c2, (World.cell?_of_block (w := w2) (a := ⟨ub, j, none⟩) (hg.block ub (by omega) (far ub (by omega)))).trans (t.cu hj), World.ownsRow.frozenAt hrow j, fun z o hz => ?_⟩
  obtain ⟨z1, z2, z3⟩ := t.boxes z o hz
  exact (hg.block z (Array.getElem?_eq_some_iff.1 z2).1 (fun e => z3 j hj e.symm)).trans z2
/-- The stages of the region that lays one more user: ahead of the new row's one cell, behind it, behind the append, behind the store. -/
structure StG (Fin : World → Prop) (App : Nat → Nat → World → Prop) (W0 W1 : World) (sl len : Nat) (l : Array Bool) (a : Act) (w' : World) : Prop where
  a0 : l.getD 16 false = false → l.getD 15 false = false → w' = W0
  a1 : l.getD 16 false = false → l.getD 15 false = true → w' = W1
  b : l.getD 18 false = false → l.getD 16 false = true → ∃ gg cap, a.tmps.getD sl undef = .slice (some ⟨gg, 0, none⟩) len cap ∧ App gg cap w'
  c : l.getD 18 false = true → Fin w'
theorem StG.read {Fin : World → Prop} {App : Nat → Nat → World → Prop} {W0 W1 : World} {sl len : Nat} {l : Array Bool} {a : Act} {w' : World} (h : StG Fin App W0 W1 sl len l a w') {i : Nat} {d : Option Nat} {v : Value} (h15 : i ≠ 15) (h16 : i ≠ 16) (h18 : i ≠ 18) (hd : d ≠ some sl) : StG Fin App W0 W1 sl len (l.setIfInBounds i true) (a.put d v) w' := by
  refine ⟨?_, ?_, ?_, ?_⟩
  · rw [set_other h16, set_other h15]; exact h.a0
  · rw [set_other h16, set_other h15]; exact h.a1
  · rw [set_other h16, set_other h18, put_get a d v sl hd]; exact h.b
  · rw [set_other h18]; exact h.c
theorem StG.pre {Fin : World → Prop} {App : Nat → Nat → World → Prop} {W0 W1 : World} {sl len : Nat} {l : Array Bool} {a : Act} {w' : World} {Pre : World → Prop} (h : StG Fin App W0 W1 sl len l a w') (h0 : Pre W0) (h1 : Pre W1) (h2 : ∀ gg cap w', App gg cap w' → Pre w') (hn : l.getD 18 false = false) : Pre w' := by
  cases q : l.getD 16 false with
  | true => obtain ⟨gg, cap, -, e⟩ := h.b hn q; exact h2 gg cap w' e
  | false =>
    cases q2 : l.getD 15 false with
    | true => rw [h.a1 q q2]; exact h1
    | false => rw [h.a0 q q2]; exact h0
set_option maxHeartbeats 12800000 in
set_option maxRecDepth 20000 in
theorem reacherOf_any : RofGoal := by
  intro ca a ns w hl ha hr
  have HR : Hid (RowN w.heap.size w a ns) := hr
  have HA : Hid (allFrom ns ns 0 = true) := ha
  clear hr ha
  obtain ⟨CB, HCB⟩ : ∃ c, Hid (madeCells #[.bool false] ns.length = c) := ⟨_, rfl⟩
  obtain ⟨CI, HCI⟩ : ∃ c, Hid (madeCells #[.int .i64 0] ns.length = c) := ⟨_, rfl⟩
  obtain ⟨CS, HCS⟩ : ∃ c, Hid (madeCells #[.slice none 0 0] ns.length = c) := ⟨_, rfl⟩
  have mB : ∀ w : World, (Instr.makeSlice 30 (.int .i64 (ns.length : Int)) (.int .i64 (ns.length : Int))).run Try.prog w = .ok (.slice (some ⟨w.heap.size, 0, none⟩) ns.length ns.length) (w.alloc (.cells CB 4)) := fun w => by
    rw [← HCB.out]; exact run_make_row' _ _ _ 1 Try.underlying30 infoB5 rfl _ _ _ (by omega) (by omega) w
  have mI : ∀ w : World, (Instr.makeSlice 27 (.int .i64 (ns.length : Int)) (.int .i64 (ns.length : Int))).run Try.prog w = .ok (.slice (some ⟨w.heap.size, 0, none⟩) ns.length ns.length) (w.alloc (.cells CI 3)) := fun w => by
    rw [← HCI.out]; exact run_make_row' _ _ _ 8 Try.underlying27 infoI5 rfl _ _ _ (by omega) (by omega) w
  have mS : ∀ w : World, (Instr.makeSlice 73 (.int .i64 (ns.length : Int)) (.int .i64 (ns.length : Int))).run Try.prog w = .ok (.slice (some ⟨w.heap.size, 0, none⟩) ns.length ns.length) (w.alloc (.cells CS 27)) := fun w => by
    rw [← HCS.out]; exact run_make_row' _ _ _ 24 Try.underlying73 infoS5 rfl _ _ _ (by omega) (by omega) w
  go_enter Try.func49, Try.ntmps49
  go_wp2_with fail
  go_cut [4] (fun v wc => ∃ h ub pb, v = .pointer (some ⟨w.heap.size + 3, 0, none⟩) ∧ Hid (Bd w (w.heap.size + 3) h ub pb ns.length ca a (List.replicate ns.length nilS) (List.replicate ns.length []) (List.replicate ns.length 0) [] wc))
  case first =>
    go_region
    all_goals
      go_wp2_with fail
      go_meet
      obtain rfl := HCB.out
      obtain rfl := HCI.out
      obtain rfl := HCS.out
      obtain ⟨f0, f1, f2, f3, f4, f5⟩ := four w _ _ _ _
      first
        | exact ⟨_, _, _, rfl, Bd.start hl f4 f5 (by omega) (by omega) (by omega) (by omega) f0 f1 f2 f3⟩
        | exact ⟨_, _, _, rfl, Bd.start hl f4 f5 (by omega) (by omega) (by omega) (by omega) f0 f2 f1 f3⟩
        | exact ⟨_, _, _, rfl, Bd.start hl f4 f5 (by omega) (by omega) (by omega) (by omega) f1 f0 f2 f3⟩
        | exact ⟨_, _, _, rfl, Bd.start hl f4 f5 (by omega) (by omega) (by omega) (by omega) f1 f2 f0 f3⟩
        | exact ⟨_, _, _, rfl, Bd.start hl f4 f5 (by omega) (by omega) (by omega) (by omega) f2 f0 f1 f3⟩
        | exact ⟨_, _, _, rfl, Bd.start hl f4 f5 (by omega) (by omega) (by omega) (by omega) f2 f1 f0 f3⟩
  case rest =>
    obtain ⟨h, ub, pb, rfl, HS⟩ := hcut
    clear mB mI mS HCB HCI HCS
    obtain ⟨i0, hi, hz0, hz1, hz2⟩ := info_parts infoI5
    have HU0 : Hid (UsTo ns 0 (List.replicate ns.length [])) := UsTo.zero ns
    have HP0 : Hid (PuTo ns 0 (List.replicate ns.length 0)) := PuTo.zero ns _ (by simp)
    go_wp2
    go_loopw [24] (fun iv wr => ∃ (m : Nat) (vs : List Value) (us : List (List Nat)) (ps : List Int), m ≤ ns.length ∧ iv = .int .i64 (m : Int) ∧ Hid (UsTo ns m us) ∧ Hid (PuTo ns m ps) ∧ Hid (Bd w (w.heap.size + 3) h ub pb ns.length ca a vs us ps [] wr))
      (fun iv _ => ns.length - (intOf iv).toNat)
    case atStart => exact ⟨0, _, _, _, Nat.zero_le _, rfl, HU0, HP0, HS⟩
    case round =>
      clear HU0 HP0 HS
      obtain ⟨m, vs, us, ps, hm, rfl, HU, HP, HS⟩ := hrel
      by_cases hlt : m < ns.length
      · have hm0 : (0 : Int) ≤ (m : Int) := by omega
        have hm1 : (m : Int) < (ns.length : Int) := by omega
        obtain ⟨bA, oA, rfl⟩ := HR.out.addr hlt
        obtain ⟨hbA, c0, c1, c2, c3⟩ := HR.out.at HS.out.bel hlt
        have hn := (all_at HA.out hlt).1
        obtain ⟨x, hx⟩ : ∃ x, ns.getD m Nd.zero = x := ⟨_, rfl⟩
        rw [hx] at c0 c1 c2 c3 hn
        obtain ⟨xk, xn, xa, xb⟩ := x
        simp only at c0 c1 c2 c3
        have HXE : Hid (ns.getD m Nd.zero = ⟨xk, xn, xa, xb⟩) := hx
        clear hx hbA
        have hS0 := HS.out.box (.cells #[.int .i64 xk, .int .i64 xn, .int .i64 xa, .int .i64 xb] 34)
        have r3 := hS0.c3
        have cP := hS0.cp hlt
        have fP := World.ownsRow.frozenAt hS0.pubs m
        clear hS0
        have hpb : pb < wr.heap.size := by have := HS.out.p1; have := HS.out.size; omega
        have hS1 : (Bd w (w.heap.size + 3) h ub pb ns.length ca (some ⟨bA, oA, none⟩) vs us (ps.set m (-1)) [(wr.heap.size, .cells #[.int .i64 xk, .int .i64 xn, .int .i64 xa, .int .i64 xb] 34)] ((wr.setCell ⟨pb, m, none⟩ (.int .i64 (-1))).alloc (.cells #[.int .i64 xk, .int .i64 xn, .int .i64 xa, .int .i64 xb] 34))) := by have := (HS.out.pub m (-1)).box (.cells #[.int .i64 xk, .int .i64 xn, .int .i64 xa, .int .i64 xb] 34); simpa using this
        have HS1 : Hid _ := hS1
        clear HS hS1
        rcases nodeB_true hn with h1 | h1 | h1
        · simp only at h1
          obtain ⟨rfl, h2, h3, rfl, rfl⟩ := h1
          have HU2 : Hid _ := HU.out.atom (by rw [HXE.out])
          have HP2 : Hid _ := HP.out.pass HA.out hlt (by rw [HXE.out]; show ¬ (1 : Int) = 6; decide)
          clear HU HP hn
          have ta := as_atomTerm_oneTerm
          have tb := as_atomTerm_twoTerm
          go_wp2_with fail
          refine (termOf_atom 1 xn 0 0 _ rfl).mono ?_
          rintro e w2 ⟨rfl, hb2⟩
          have hS2 := HS1.out.next hb2
          have hbx := (hS2.boxes _ _ (List.mem_cons_self ..)).2.1
          have e0 : w2.cell? ⟨wr.heap.size, 0, none⟩ = some (.int .i64 1) := (cell_of_row _ _ 0 _ _ _ hbx).trans rfl
          have HS2 : Hid _ := hS2.drop
          clear hS2 hbx hb2 HS1 c0 c1 c2 c3 r3 cP fP hpb
          go_wp2_with fail
          go_roundw
          case rel => exact ⟨m + 1, vs, us, _, by omega, by go_num, HU2, HP2, HS2⟩
          case measure => simp [intOf] <;> omega
        · simp only at h1
          obtain ⟨h2, h3, rfl, h4, h5, h6, rfl⟩ := h1
          obtain ⟨i, rfl⟩ := Int.eq_ofNat_of_zero_le h4
          have hi0 : (0 : Int) ≤ (i : Int) := by omega
          have hi1 : (i : Int) < (ns.length : Int) := by omega
          have hi2 : i < ns.length := by omega
          have HU2 : Hid (UsTo ns (m + 1) (us.set i (us.getD i [] ++ [m]))) := HU.out.one (by rw [HXE.out]; show ¬ xk = 1; omega) (by rw [HXE.out]; exact h6) hi2 (by rw [HXE.out])
          have hul : (us.getD i []).length ≤ 6000 := by rw [HU.out.2 i hi2]; have := usN_len ns i m; omega
          have h36 : xk = 3 ∨ xk = 6 := by unfold oneK at h6; simpa using h6
          clear HU hn
          have ta := as_oneTerm_oneTerm
          go_wp2_with fail
          refine (termOf_one xk 0 i 0 _ h36).mono ?_
          rintro e w2 ⟨rfl, hb2⟩
          have hS3 := (HS1.out.next hb2).box (.cells #[.int .i64 xk, .int .i64 (i : Int)] 115)
          clear hb2 HS1 c0 c1 c2 c3 r3 cP fP hpb
          go_wp2_with fail
          obtain ⟨zx, HZX⟩ : ∃ z, Hid (w2.heap.size = z) := ⟨_, rfl⟩
          rw [HZX.out] at hS3 ⊢
          generalize w2.alloc (.cells #[.int .i64 xk, .int .i64 (i : Int)] 115) = w3 at hS3 ⊢
          obtain ⟨vad, vcap, hv⟩ := hS3.val hi2
          have hb3 : Below w3.heap.size w3 (w3.drew.alloc (.cells #[.int .i64 (m : Int)] 3)) := ((Below.refl _ _).drew).alloc (Nat.le_refl _) _
          have hrow := hS3.rows i hi2
          rw [hv] at hrow
          have HOW : Hid ((w3.drew.alloc (.cells #[.int .i64 (m : Int)] 3)).ownsRow (w.heap.size + 4) 3 1 (.slice vad (us.getD i []).length vcap) (us.getD i []).length (kI (us.getD i []))) := own_next hrow hb3
          have HNW : Hid (∀ j u, [Value.int .i64 (m : Int)][j]? = some u → (w3.drew.alloc (.cells #[.int .i64 (m : Int)] 3)).cell? ((⟨w3.heap.size, 0, none⟩ : Addr).add j) = some u) := World.news_of_block (cs := #[.int .i64 (m : Int)]) (t := 3) (fr := (0, 0)) (heap_alloc_new w3.drew _)
          have HPR : Hid (∀ w', Below w3.heap.size w3 w' → (fun w' => w'.cell? ⟨w.heap.size + 3, 2, none⟩ = some (.slice (some ⟨ub, 0, none⟩) ns.length ns.length) ∧ w'.cell? ⟨ub, i, none⟩ = some (.slice vad (us.getD i []).length vcap) ∧ w'.frozen? ⟨ub, i, none⟩ = false ∧ w'.cell? ⟨zx, 1, none⟩ = some (.int .i64 (i : Int))) w') := fun w' hb => by
            have t := hS3.next hb
            have e2 := t.cu hi2
            rw [hv] at e2
            exact ⟨t.c2, e2, World.ownsRow.frozenAt t.row i, (cell_of_row _ _ 1 _ _ _ (t.boxes _ _ (List.mem_cons_self ..)).2.1).trans rfl⟩
          have HPA : Hid (∀ gg cap w', (fun gg cap w' => w'.ownsRow (w.heap.size + 4) 3 1 (.slice (some ⟨gg, 0, none⟩) ((us.getD i []).length + 1) cap) ((us.getD i []).length + 1) (kI (us.getD i []) ++ [.int .i64 (m : Int)]) ∧ (w3.drew.alloc (.cells #[.int .i64 (m : Int)] 3)).grownBy w' (Value.slice vad (us.getD i []).length vcap).ownBlock ∧ ((Value.slice vad (us.getD i []).length vcap).ownBlock = some gg ∨ gg = w3.heap.size + 1)) gg cap w' → (fun w' => w'.cell? ⟨w.heap.size + 3, 2, none⟩ = some (.slice (some ⟨ub, 0, none⟩) ns.length ns.length) ∧ w'.cell? ⟨ub, i, none⟩ = some (.slice vad (us.getD i []).length vcap) ∧ w'.frozen? ⟨ub, i, none⟩ = false ∧ w'.cell? ⟨zx, 1, none⟩ = some (.int .i64 (i : Int))) w') := fun gg cap w' ⟨_, hg, _⟩ => by
            rw [← hv] at hg
            obtain ⟨q1, q2, q3, q4⟩ := hS3.grow hb3 hi2 hg
            rw [hv] at q2
            exact ⟨q1, q2, q3, (cell_of_row _ _ 1 _ _ _ (q4 _ _ (List.mem_cons_self ..))).trans rfl⟩
          have HFI : Hid (∀ gg cap w', (fun gg cap w' => w'.ownsRow (w.heap.size + 4) 3 1 (.slice (some ⟨gg, 0, none⟩) ((us.getD i []).length + 1) cap) ((us.getD i []).length + 1) (kI (us.getD i []) ++ [.int .i64 (m : Int)]) ∧ (w3.drew.alloc (.cells #[.int .i64 (m : Int)] 3)).grownBy w' (Value.slice vad (us.getD i []).length vcap).ownBlock ∧ ((Value.slice vad (us.getD i []).length vcap).ownBlock = some gg ∨ gg = w3.heap.size + 1)) gg cap w' → (fun w' => ∃ vs', Bd w (w.heap.size + 3) h ub pb ns.length ca (some ⟨bA, oA, none⟩) vs' (us.set i (us.getD i [] ++ [m])) (ps.set m (-1)) [(wr.heap.size, Obj.cells #[.int .i64 xk, .int .i64 0, .int .i64 (i : Int), .int .i64 0] 34)] w') (w'.setCell ⟨ub, i, none⟩ (.slice (some ⟨gg, 0, none⟩) ((us.getD i []).length + 1) cap))) := fun gg cap w' ⟨ho, hg, hat⟩ => by
            rw [← hv] at hg hat
            exact ⟨_, (hS3.app hb3 hi2 hg ho (by simpa using hat)).tail⟩
          have s1 : Hid (∀ u ∈ [Value.int .i64 (m : Int)], u.oneCell' = true) := by intro u hu; simp at hu; subst hu; rfl
          have s4 : Hid (w.heap.size + 4 ≤ (w3.drew.alloc (.cells #[.int .i64 (m : Int)] 3)).heap.size) := by show _ ≤ _; have := hS3.size; simp; omega
          have s5 : Hid ((w3.drew.alloc (.cells #[.int .i64 (m : Int)] 3)).heap.size = w3.heap.size + 1) := by show _ = _; simp
          clear hrow hb3 hv hS3
          refine wp_region_stagedL (I := StG (fun w' => ∃ vs', Bd w (w.heap.size + 3) h ub pb ns.length ca (some ⟨bA, oA, none⟩) vs' (us.set i (us.getD i [] ++ [m])) (ps.set m (-1)) [(wr.heap.size, Obj.cells #[.int .i64 xk, .int .i64 0, .int .i64 (i : Int), .int .i64 0] 34)] w') (fun gg cap w' => w'.ownsRow (w.heap.size + 4) 3 1 (.slice (some ⟨gg, 0, none⟩) ((us.getD i []).length + 1) cap) ((us.getD i []).length + 1) (kI (us.getD i []) ++ [.int .i64 (m : Int)]) ∧ (w3.drew.alloc (.cells #[.int .i64 (m : Int)] 3)).grownBy w' (Value.slice vad (us.getD i []).length vcap).ownBlock ∧ ((Value.slice vad (us.getD i []).length vcap).ownBlock = some gg ∨ gg = w3.heap.size + 1)) w3.drew (w3.drew.alloc (.cells #[.int .i64 (m : Int)] 3)) 60 ((us.getD i []).length + 1))
            (fs := #[⟨[44], fun vs _ => vs = [.pointer (some ⟨w.heap.size + 3, 0, none⟩)]⟩, ⟨[45], fun vs _ => vs = [.pointer (some ⟨w.heap.size + 3, 0, none⟩)]⟩, ⟨[46], fun vs _ => vs = [.pointer (some ⟨w.heap.size + 3, 2, none⟩)]⟩, ⟨[47], fun vs _ => vs = [.slice (some ⟨ub, 0, none⟩) ns.length ns.length]⟩, ⟨[48], fun vs _ => vs = [.pointer (some ⟨zx, 1, none⟩)]⟩, ⟨[49], fun vs _ => vs = [.int .i64 (i : Int)]⟩, ⟨[50], fun vs _ => vs = [.pointer (some ⟨w.heap.size + 3, 0, none⟩)]⟩, ⟨[51], fun vs _ => vs = [.pointer (some ⟨w.heap.size + 3, 0, none⟩)]⟩, ⟨[52], fun vs _ => vs = [.pointer (some ⟨w.heap.size + 3, 2, none⟩)]⟩, ⟨[53], fun vs _ => vs = [.slice (some ⟨ub, 0, none⟩) ns.length ns.length]⟩, ⟨[54], fun vs _ => vs = [.pointer (some ⟨zx, 1, none⟩)]⟩, ⟨[55], fun vs _ => vs = [.int .i64 (i : Int)]⟩, ⟨[56], fun vs _ => vs = [.pointer (some ⟨ub, i, none⟩)]⟩, ⟨[57], fun vs _ => vs = [(.slice vad (us.getD i []).length vcap)]⟩, ⟨[58], fun vs _ => vs = [.int .i64 (m : Int)]⟩, ⟨[59], fun vs _ => vs = [.slice (some ⟨w3.heap.size, 0, none⟩) 1 1]⟩, ⟨[60], fun _ _ => True⟩, ⟨[61], fun vs _ => vs = [.pointer (some ⟨ub, i, none⟩)]⟩, ⟨[], fun _ _ => True⟩])
            (by kernel_rfl) 114 rfl (by kernel_rfl) ?stab ?start ?exec ?fin
          case stab =>
            intro k f hf
            have hk : k < 19 := (Array.getElem?_eq_some_iff.1 hf).1
            rcases (show k = 0 ∨ k = 1 ∨ k = 2 ∨ k = 3 ∨ k = 4 ∨ k = 5 ∨ k = 6 ∨ k = 7 ∨ k = 8 ∨ k = 9 ∨ k = 10 ∨ k = 11 ∨ k = 12 ∨ k = 13 ∨ k = 14 ∨ k = 15 ∨ k = 16 ∨ k = 17 ∨ k = 18 by omega) with rfl | rfl | rfl | rfl | rfl | rfl | rfl | rfl | rfl | rfl | rfl | rfl | rfl | rfl | rfl | rfl | rfl | rfl | rfl
            all_goals
              simp only [List.getElem?_toArray, List.getElem?_cons_succ, List.getElem?_cons_zero, Option.some.injEq] at hf
              subst hf
              exact fun _ _ _ h => h
          case start => exact ⟨fun _ _ => rfl, fun _ h => by simp at h, fun _ h => by simp at h, fun h => by simp at h⟩
          case exec =>
            intro j o f hio hf ls act wq hls hsz hI hun hcl hold hpre
            have hj : j < 19 := (Array.getElem?_eq_some_iff.1 hio).1
            rcases (show j = 0 ∨ j = 1 ∨ j = 2 ∨ j = 3 ∨ j = 4 ∨ j = 5 ∨ j = 6 ∨ j = 7 ∨ j = 8 ∨ j = 9 ∨ j = 10 ∨ j = 11 ∨ j = 12 ∨ j = 13 ∨ j = 14 ∨ j = 15 ∨ j = 16 ∨ j = 17 ∨ j = 18 by omega) with rfl | rfl | rfl | rfl | rfl | rfl | rfl | rfl | rfl | rfl | rfl | rfl | rfl | rfl | rfl | rfl | rfl | rfl | rfl
            all_goals
              simp only [List.getElem?_toArray, List.getElem?_cons_succ, List.getElem?_cons_zero, Option.some.injEq] at hio hf
              subst hio hf
              refine ⟨rfl, ?_⟩
            · have g4 : act.tmps.getD 4 undef = .pointer (some ⟨w.heap.size + 3, 0, none⟩) := hold 4 (free_spec (by kernel_rfl))
              refine exec_same (v := .pointer (some ⟨w.heap.size + 3, 0, none⟩)) ?_ ⟨_, rfl, hI.read (by decide) (by decide) (by decide) (by simp), at_one (by omega) rfl⟩
              simp [go_sem, Act.eval, g4]
            · have g44 : act.tmps.getD 44 undef = .pointer (some ⟨w.heap.size + 3, 0, none⟩) := by have := of_one ((hpre ⟨0, .data⟩ (by simp) rfl).2 _ rfl); simpa using this
              refine exec_same (v := .pointer (some ⟨w.heap.size + 3, 0, none⟩)) ?_ ⟨_, rfl, hI.read (by decide) (by decide) (by decide) (by simp), at_one (by omega) rfl⟩
              simp [go_sem, Act.eval, g44]
            · have g45 : act.tmps.getD 45 undef = .pointer (some ⟨w.heap.size + 3, 0, none⟩) := by have := of_one ((hpre ⟨1, .data⟩ (by simp) rfl).2 _ rfl); simpa using this
              refine exec_same (v := .pointer (some ⟨w.heap.size + 3, 2, none⟩)) ?_ ⟨_, rfl, hI.read (by decide) (by decide) (by decide) (by simp), at_one (by omega) rfl⟩
              simp [go_sem, Act.eval, g45]
            · have g46 : act.tmps.getD 46 undef = .pointer (some ⟨w.heap.size + 3, 2, none⟩) := by have := of_one ((hpre ⟨2, .data⟩ (by simp) rfl).2 _ rfl); simpa using this
              have hnd : ls.getD 18 false = false := not_yet hcl 9 (by kernel_rfl) hun
              obtain ⟨p1, p2, p3, p4⟩ := hI.pre (HPR.out _ ((Below.refl _ _).drew)) (HPR.out _ (((Below.refl _ _).drew).alloc (Nat.le_refl _) _)) HPA.out hnd
              refine exec_same (v := .slice (some ⟨ub, 0, none⟩) ns.length ns.length) ?_ ⟨_, rfl, hI.read (by decide) (by decide) (by decide) (by simp), at_one (by omega) rfl⟩
              simp [go_sem, Act.eval, g46, p1]
            · have g9 : act.tmps.getD 9 undef = .pointer (some ⟨zx, 0, none⟩) := hold 9 (free_spec (by kernel_rfl))
              refine exec_same (v := .pointer (some ⟨zx, 1, none⟩)) ?_ ⟨_, rfl, hI.read (by decide) (by decide) (by decide) (by simp), at_one (by omega) rfl⟩
              simp [go_sem, Act.eval, g9]
            · have g48 : act.tmps.getD 48 undef = .pointer (some ⟨zx, 1, none⟩) := by have := of_one ((hpre ⟨4, .data⟩ (by simp) rfl).2 _ rfl); simpa using this
              have hnd : ls.getD 18 false = false := not_yet hcl 9 (by kernel_rfl) hun
              obtain ⟨p1, p2, p3, p4⟩ := hI.pre (HPR.out _ ((Below.refl _ _).drew)) (HPR.out _ (((Below.refl _ _).drew).alloc (Nat.le_refl _) _)) HPA.out hnd
              refine exec_same (v := .int .i64 (i : Int)) ?_ ⟨_, rfl, hI.read (by decide) (by decide) (by decide) (by simp), at_one (by omega) rfl⟩
              simp [go_sem, Act.eval, g48, p4]
            · have g4 : act.tmps.getD 4 undef = .pointer (some ⟨w.heap.size + 3, 0, none⟩) := hold 4 (free_spec (by kernel_rfl))
              refine exec_same (v := .pointer (some ⟨w.heap.size + 3, 0, none⟩)) ?_ ⟨_, rfl, hI.read (by decide) (by decide) (by decide) (by simp), at_one (by omega) rfl⟩
              simp [go_sem, Act.eval, g4]
            · have g50 : act.tmps.getD 50 undef = .pointer (some ⟨w.heap.size + 3, 0, none⟩) := by have := of_one ((hpre ⟨6, .data⟩ (by simp) rfl).2 _ rfl); simpa using this
              refine exec_same (v := .pointer (some ⟨w.heap.size + 3, 0, none⟩)) ?_ ⟨_, rfl, hI.read (by decide) (by decide) (by decide) (by simp), at_one (by omega) rfl⟩
              simp [go_sem, Act.eval, g50]
            · have g51 : act.tmps.getD 51 undef = .pointer (some ⟨w.heap.size + 3, 0, none⟩) := by have := of_one ((hpre ⟨7, .data⟩ (by simp) rfl).2 _ rfl); simpa using this
              refine exec_same (v := .pointer (some ⟨w.heap.size + 3, 2, none⟩)) ?_ ⟨_, rfl, hI.read (by decide) (by decide) (by decide) (by simp), at_one (by omega) rfl⟩
              simp [go_sem, Act.eval, g51]
            · have g52 : act.tmps.getD 52 undef = .pointer (some ⟨w.heap.size + 3, 2, none⟩) := by have := of_one ((hpre ⟨8, .data⟩ (by simp) rfl).2 _ rfl); simpa using this
              have hnd : ls.getD 18 false = false := not_yet hcl 9 (by kernel_rfl) hun
              obtain ⟨p1, p2, p3, p4⟩ := hI.pre (HPR.out _ ((Below.refl _ _).drew)) (HPR.out _ (((Below.refl _ _).drew).alloc (Nat.le_refl _) _)) HPA.out hnd
              refine exec_same (v := .slice (some ⟨ub, 0, none⟩) ns.length ns.length) ?_ ⟨_, rfl, hI.read (by decide) (by decide) (by decide) (by simp), at_one (by omega) rfl⟩
              simp [go_sem, Act.eval, g52, p1]
            · have g9 : act.tmps.getD 9 undef = .pointer (some ⟨zx, 0, none⟩) := hold 9 (free_spec (by kernel_rfl))
              refine exec_same (v := .pointer (some ⟨zx, 1, none⟩)) ?_ ⟨_, rfl, hI.read (by decide) (by decide) (by decide) (by simp), at_one (by omega) rfl⟩
              simp [go_sem, Act.eval, g9]
            · have g54 : act.tmps.getD 54 undef = .pointer (some ⟨zx, 1, none⟩) := by have := of_one ((hpre ⟨10, .data⟩ (by simp) rfl).2 _ rfl); simpa using this
              have hnd : ls.getD 18 false = false := not_yet hcl 9 (by kernel_rfl) hun
              obtain ⟨p1, p2, p3, p4⟩ := hI.pre (HPR.out _ ((Below.refl _ _).drew)) (HPR.out _ (((Below.refl _ _).drew).alloc (Nat.le_refl _) _)) HPA.out hnd
              refine exec_same (v := .int .i64 (i : Int)) ?_ ⟨_, rfl, hI.read (by decide) (by decide) (by decide) (by simp), at_one (by omega) rfl⟩
              simp [go_sem, Act.eval, g54, p4]
            · have g53 : act.tmps.getD 53 undef = .slice (some ⟨ub, 0, none⟩) ns.length ns.length := by have := of_one ((hpre ⟨9, .data⟩ (by simp) rfl).2 _ rfl); simpa using this
              have g55 : act.tmps.getD 55 undef = .int .i64 (i : Int) := by have := of_one ((hpre ⟨11, .data⟩ (by simp) rfl).2 _ rfl); simpa using this
              refine exec_same (v := .pointer (some ⟨ub, i, none⟩)) ?_ ⟨_, rfl, hI.read (by decide) (by decide) (by decide) (by simp), at_one (by omega) rfl⟩
              simp [go_sem, Act.eval, g53, g55, hi0, hi1]
            · have g56 : act.tmps.getD 56 undef = .pointer (some ⟨ub, i, none⟩) := by have := of_one ((hpre ⟨12, .data⟩ (by simp) rfl).2 _ rfl); simpa using this
              have hnd : ls.getD 18 false = false := not_yet hcl 9 (by kernel_rfl) hun
              obtain ⟨p1, p2, p3, p4⟩ := hI.pre (HPR.out _ ((Below.refl _ _).drew)) (HPR.out _ (((Below.refl _ _).drew).alloc (Nat.le_refl _) _)) HPA.out hnd
              refine exec_same (v := (.slice vad (us.getD i []).length vcap)) ?_ ⟨_, rfl, hI.read (by decide) (by decide) (by decide) (by simp), at_one (by omega) rfl⟩
              simp [go_sem, Act.eval, g56, p2]
            · have g5 : act.tmps.getD 5 undef = .int .i64 (m : Int) := hold 5 (free_spec (by kernel_rfl))
              refine exec_same (v := .int .i64 (m : Int)) ?_ ⟨_, rfl, hI.read (by decide) (by decide) (by decide) (by simp), at_one (by omega) rfl⟩
              simp [go_sem, Act.eval, g5]
            · have g58 : act.tmps.getD 58 undef = .int .i64 (m : Int) := by have := of_one ((hpre ⟨14, .data⟩ (by simp) rfl).2 _ rfl); simpa using this
              have hn16 : ls.getD 16 false = false := not_yet hcl 9 (by kernel_rfl) hun
              have hn15 : ls.getD 15 false = false := by have := hun; simp at this ⊢; rcases Nat.lt_or_ge 15 ls.size with h' | h' <;> simp_all
              obtain rfl := hI.a0 hn16 hn15
              refine exec_made (v := .slice (some ⟨w3.heap.size, 0, none⟩) 1 1) (w' := (w3.drew.alloc (.cells #[.int .i64 (m : Int)] 3))) ?_ ⟨_, rfl, ⟨fun h1 h2 => ?_, fun h1 h2 => rfl, fun h1 h2 => ?_, fun h1 => ?_⟩, at_one (by omega) rfl⟩
              · have g58' : act.tmps[58]?.getD undef = .int .i64 (m : Int) := by simpa using g58
                simp [go_sem, Act.eval, g58']
              · rw [set_it (by rw [hls]; simp)] at h2; cases h2
              · rw [set_other (by decide), hn16] at h2; cases h2
              · rw [set_other (by decide)] at h1; have := waits_spec (i := 16) hcl 9 18 (by kernel_rfl) h1; rw [hn16] at this; cases this
            · have g57 : act.tmps.getD 57 undef = (.slice vad (us.getD i []).length vcap) := by have := of_one ((hpre ⟨13, .data⟩ (by simp) rfl).2 _ rfl); simpa using this
              have g59 : act.tmps.getD 59 undef = .slice (some ⟨w3.heap.size, 0, none⟩) 1 1 := by have := of_one ((hpre ⟨15, .data⟩ (by simp) rfl).2 _ rfl); simpa using this
              have hn16 : ls.getD 16 false = false := by have := hun; simp at this ⊢; rcases Nat.lt_or_ge 16 ls.size with h' | h' <;> simp_all
              have hy15 : ls.getD 15 false = true := (hpre ⟨15, .data⟩ (by simp) rfl).1
              have hn18 : ls.getD 18 false = false := not_yet hcl 9 (by kernel_rfl) hun
              obtain rfl := hI.a1 hn16 hy15
              refine wp_append_lies _ (.tmp 57) (.tmp 59) 27 rfl (w.heap.size + 4) 3 i0 _ 1 8 Try.underlying27 hi hz0 hz1 hz2 rfl (by decide) (.slice vad (us.getD i []).length vcap) (us.getD i []).length _ (by simpa [Act.eval] using g57) HOW.out ⟨w3.heap.size, 0, none⟩ 1 1 [.int .i64 (m : Int)] (by simpa [Act.eval] using g59) rfl HNW.out s1.out (by decide) (by unfold maxLen; omega) (by omega) s4.out (w3.heap.size + 1) s5.out ?_
              intro gg cap w4 hown1 hgrow hat hgl
              refine ⟨_, rfl, ⟨fun h1 h2 => ?_, fun h1 h2 => ?_, fun h1 h2 => ⟨gg, cap, put_same _ _ _ (by omega), hown1, hgrow, hat⟩, fun h1 => ?_⟩, trivial⟩
              · rw [set_it (by rw [hls]; simp)] at h1; cases h1
              · rw [set_it (by rw [hls]; simp)] at h1; cases h1
              · rw [set_other (by decide), hn18] at h1; cases h1
            · have g47 : act.tmps.getD 47 undef = .slice (some ⟨ub, 0, none⟩) ns.length ns.length := by have := of_one ((hpre ⟨3, .data⟩ (by simp) rfl).2 _ rfl); simpa using this
              have g49 : act.tmps.getD 49 undef = .int .i64 (i : Int) := by have := of_one ((hpre ⟨5, .data⟩ (by simp) rfl).2 _ rfl); simpa using this
              refine exec_same (v := .pointer (some ⟨ub, i, none⟩)) ?_ ⟨_, rfl, hI.read (by decide) (by decide) (by decide) (by simp), at_one (by omega) rfl⟩
              simp [go_sem, Act.eval, g47, g49, hi0, hi1]
            · have g61 : act.tmps.getD 61 undef = .pointer (some ⟨ub, i, none⟩) := by have := of_one ((hpre ⟨17, .data⟩ (by simp) rfl).2 _ rfl); simpa using this
              have hy16 : ls.getD 16 false = true := (hpre ⟨16, .data⟩ (by simp) rfl).1
              have hn18 : ls.getD 18 false = false := by have := hun; simp at this ⊢; rcases Nat.lt_or_ge 18 ls.size with h' | h' <;> simp_all
              obtain ⟨gg, cap, g60, hap⟩ := hI.b hn18 hy16
              obtain ⟨p1, p2, p3, p4⟩ := HPA.out gg cap wq hap
              have hfi := HFI.out gg cap wq hap
              refine exec_skip (w' := wq.setCell ⟨ub, i, none⟩ (.slice (some ⟨gg, 0, none⟩) ((us.getD i []).length + 1) cap)) ?_ ⟨_, rfl, ⟨fun h1 h2 => ?_, fun h1 h2 => ?_, fun h1 h2 => ?_, fun h1 => hfi⟩, trivial⟩
              · simp [go_sem, Act.eval, g61, g60, p2, p3]
              · rw [set_other (by decide), hy16] at h1; cases h1
              · rw [set_other (by decide), hy16] at h1; cases h1
              · rw [set_it (by rw [hls]; simp)] at h1; cases h1
          case fin =>
            intro zs ls w5 hzl hall hI hF
            obtain ⟨vs5, hS5⟩ := hI.c (hall 18 (by simp))
            obtain ⟨z0, z1, z2, z3, z4, z5, z6, z7, z8, z9, z10, z11, z12, z13, z14, z15, z16, z17, z18, rfl⟩ := list19 zs hzl
            clear hF hall hI hzl HOW HNW HPR HPA HFI s1 s4 s5
            simp only [putAll, Act.put, List.setIfInBounds_toArray, List.set_cons_succ, List.set_cons_zero]
            have hbx := (hS5.boxes _ _ (List.mem_cons_self ..)).2.1
            have e0 : w5.cell? ⟨wr.heap.size, 0, none⟩ = some (.int .i64 xk) := (cell_of_row _ _ 0 _ _ _ hbx).trans rfl
            rcases h36 with rfl | rfl
            · have HP2 : Hid _ := HP.out.pass HA.out hlt (by rw [HXE.out]; show ¬ (3 : Int) = 6; decide)
              have HS6 : Hid _ := hS5.drop
              clear hS5 hbx HP
              go_wp2_with fail
              go_roundw
              case rel => exact ⟨m + 1, _, _, _, by omega, by go_num, HU2, HP2, HS6⟩
              case measure => simp [intOf] <;> omega
            · have HP2 : Hid _ := HP.out.put HA.out hlt (by rw [HXE.out]) (i := i) (by omega) (by rw [HXE.out])
              have e2 : w5.cell? ⟨wr.heap.size, 2, none⟩ = some (.int .i64 (i : Int)) := (cell_of_row _ _ 2 _ _ _ hbx).trans rfl
              have r3 := hS5.c3
              have cP := hS5.cp hi2
              have fP := World.ownsRow.frozenAt hS5.pubs i
              have HS6 : Hid _ := (hS5.drop.pub i (m : Int)).next ((Below.refl _ _).drew)
              clear hS5 hbx HP
              go_wp2_with fail
              go_region
              all_goals
                go_wp2_with fail
                go_roundw
                case rel => exact ⟨m + 1, _, _, _, by omega, by go_num, HU2, HP2, HS6⟩
                case measure => simp [intOf] <;> omega
        · simp only at h1
          obtain ⟨h2, h3, rfl, h4, h5, h6, h7, h8⟩ := h1
          obtain ⟨i, rfl⟩ := Int.eq_ofNat_of_zero_le h4
          obtain ⟨j, rfl⟩ := Int.eq_ofNat_of_zero_le h7
          have hi0 : (0 : Int) ≤ (i : Int) := by omega
          have hi1 : (i : Int) < (ns.length : Int) := by omega
          have hi2 : i < ns.length := by omega
          have hj0 : (0 : Int) ≤ (j : Int) := by omega
          have hj1 : (j : Int) < (ns.length : Int) := by omega
          have hj2 : j < ns.length := by omega
          have HU2 : Hid (UsTo ns (m + 1) ((us.set i (us.getD i [] ++ [m])).set j ((us.set i (us.getD i [] ++ [m])).getD j [] ++ [m]))) := HU.out.two (by rw [HXE.out]; show ¬ xk = 1; omega) (by rw [HXE.out]; exact h6) hi2 hj2 (by rw [HXE.out]) (by rw [HXE.out])
          have hul : (us.getD i []).length ≤ 6000 := by rw [HU.out.2 i hi2]; have := usN_len ns i m; omega
          have hul2 : ((us.set i (us.getD i [] ++ [m])).getD j []).length ≤ 6001 := by
            rw [getD_setV _ _ _ _ _ (by rw [HU.out.1]; exact hi2)]
            split
            · rw [List.length_append]; simp only [List.length_cons, List.length_nil]; omega
            · rw [HU.out.2 j hj2]; have := usN_len ns j m; omega
          have hk2 : xk = 2 ∨ xk = 4 ∨ xk = 5 ∨ xk = 7 ∨ xk = 8 ∨ xk = 9 := by unfold oneK at h6; simp at h6; omega
          have h66 : (xk == 6) = false := beq_eq_false_iff_ne.2 (by omega)
          have HP2 : Hid _ := HP.out.pass HA.out hlt (by rw [HXE.out]; show ¬ xk = 6; omega)
          clear HU hn HP
          have ta := as_twoTerm_oneTerm
          have tb := as_twoTerm_twoTerm
          go_wp2_with fail
          refine (termOf_two xk 0 i j _ hk2).mono ?_
          rintro e w2 ⟨rfl, hb2⟩
          have hS3 := (HS1.out.next hb2).box (.cells #[.int .i64 xk, .int .i64 (i : Int), .int .i64 (j : Int)] 117)
          clear hb2 HS1 c0 c1 c2 c3 r3 cP fP hpb hk2
          go_wp2_with fail
          obtain ⟨zx, HZX⟩ : ∃ z, Hid (w2.heap.size = z) := ⟨_, rfl⟩
          rw [HZX.out] at hS3 ⊢
          generalize w2.alloc (.cells #[.int .i64 xk, .int .i64 (i : Int), .int .i64 (j : Int)] 117) = w3 at hS3 ⊢
          obtain ⟨vad, vcap, hv⟩ := hS3.val hi2
          have hb3 : Below w3.heap.size w3 (w3.drew.alloc (.cells #[.int .i64 (m : Int)] 3)) := ((Below.refl _ _).drew).alloc (Nat.le_refl _) _
          have hrow := hS3.rows i hi2
          rw [hv] at hrow
          have HOW : Hid ((w3.drew.alloc (.cells #[.int .i64 (m : Int)] 3)).ownsRow (w.heap.size + 4) 3 1 (.slice vad (us.getD i []).length vcap) (us.getD i []).length (kI (us.getD i []))) := own_next hrow hb3
          have HNW : Hid (∀ j u, [Value.int .i64 (m : Int)][j]? = some u → (w3.drew.alloc (.cells #[.int .i64 (m : Int)] 3)).cell? ((⟨w3.heap.size, 0, none⟩ : Addr).add j) = some u) := World.news_of_block (cs := #[.int .i64 (m : Int)]) (t := 3) (fr := (0, 0)) (heap_alloc_new w3.drew _)
          have HPR : Hid (∀ w', Below w3.heap.size w3 w' → (fun w' => w'.cell? ⟨w.heap.size + 3, 2, none⟩ = some (.slice (some ⟨ub, 0, none⟩) ns.length ns.length) ∧ w'.cell? ⟨ub, i, none⟩ = some (.slice vad (us.getD i []).length vcap) ∧ w'.frozen? ⟨ub, i, none⟩ = false ∧ w'.cell? ⟨zx, 1, none⟩ = some (.int .i64 (i : Int))) w') := fun w' hb => by
            have t := hS3.next hb
            have e2 := t.cu hi2
            rw [hv] at e2
            exact ⟨t.c2, e2, World.ownsRow.frozenAt t.row i, (cell_of_row _ _ 1 _ _ _ (t.boxes _ _ (List.mem_cons_self ..)).2.1).trans rfl⟩
          have HPA : Hid (∀ gg cap w', (fun gg cap w' => w'.ownsRow (w.heap.size + 4) 3 1 (.slice (some ⟨gg, 0, none⟩) ((us.getD i []).length + 1) cap) ((us.getD i []).length + 1) (kI (us.getD i []) ++ [.int .i64 (m : Int)]) ∧ (w3.drew.alloc (.cells #[.int .i64 (m : Int)] 3)).grownBy w' (Value.slice vad (us.getD i []).length vcap).ownBlock ∧ ((Value.slice vad (us.getD i []).length vcap).ownBlock = some gg ∨ gg = w3.heap.size + 1)) gg cap w' → (fun w' => w'.cell? ⟨w.heap.size + 3, 2, none⟩ = some (.slice (some ⟨ub, 0, none⟩) ns.length ns.length) ∧ w'.cell? ⟨ub, i, none⟩ = some (.slice vad (us.getD i []).length vcap) ∧ w'.frozen? ⟨ub, i, none⟩ = false ∧ w'.cell? ⟨zx, 1, none⟩ = some (.int .i64 (i : Int))) w') := fun gg cap w' ⟨_, hg, _⟩ => by
            rw [← hv] at hg
            obtain ⟨q1, q2, q3, q4⟩ := hS3.grow hb3 hi2 hg
            rw [hv] at q2
            exact ⟨q1, q2, q3, (cell_of_row _ _ 1 _ _ _ (q4 _ _ (List.mem_cons_self ..))).trans rfl⟩
          have HFI : Hid (∀ gg cap w', (fun gg cap w' => w'.ownsRow (w.heap.size + 4) 3 1 (.slice (some ⟨gg, 0, none⟩) ((us.getD i []).length + 1) cap) ((us.getD i []).length + 1) (kI (us.getD i []) ++ [.int .i64 (m : Int)]) ∧ (w3.drew.alloc (.cells #[.int .i64 (m : Int)] 3)).grownBy w' (Value.slice vad (us.getD i []).length vcap).ownBlock ∧ ((Value.slice vad (us.getD i []).length vcap).ownBlock = some gg ∨ gg = w3.heap.size + 1)) gg cap w' → (fun w' => ∃ vs', Bd w (w.heap.size + 3) h ub pb ns.length ca (some ⟨bA, oA, none⟩) vs' (us.set i (us.getD i [] ++ [m])) (ps.set m (-1)) [(zx, Obj.cells #[.int .i64 xk, .int .i64 (i : Int), .int .i64 (j : Int)] 117), (wr.heap.size, Obj.cells #[.int .i64 xk, .int .i64 0, .int .i64 (i : Int), .int .i64 (j : Int)] 34)] w') (w'.setCell ⟨ub, i, none⟩ (.slice (some ⟨gg, 0, none⟩) ((us.getD i []).length + 1) cap))) := fun gg cap w' ⟨ho, hg, hat⟩ => by
            rw [← hv] at hg hat
            exact ⟨_, (hS3.app hb3 hi2 hg ho (by simpa using hat))⟩
          have s1 : Hid (∀ u ∈ [Value.int .i64 (m : Int)], u.oneCell' = true) := by intro u hu; simp at hu; subst hu; rfl
          have s4 : Hid (w.heap.size + 4 ≤ (w3.drew.alloc (.cells #[.int .i64 (m : Int)] 3)).heap.size) := by show _ ≤ _; have := hS3.size; simp; omega
          have s5 : Hid ((w3.drew.alloc (.cells #[.int .i64 (m : Int)] 3)).heap.size = w3.heap.size + 1) := by show _ = _; simp
          clear hrow hb3 hv hS3
          refine wp_region_stagedL (I := StG (fun w' => ∃ vs', Bd w (w.heap.size + 3) h ub pb ns.length ca (some ⟨bA, oA, none⟩) vs' (us.set i (us.getD i [] ++ [m])) (ps.set m (-1)) [(zx, Obj.cells #[.int .i64 xk, .int .i64 (i : Int), .int .i64 (j : Int)] 117), (wr.heap.size, Obj.cells #[.int .i64 xk, .int .i64 0, .int .i64 (i : Int), .int .i64 (j : Int)] 34)] w') (fun gg cap w' => w'.ownsRow (w.heap.size + 4) 3 1 (.slice (some ⟨gg, 0, none⟩) ((us.getD i []).length + 1) cap) ((us.getD i []).length + 1) (kI (us.getD i []) ++ [.int .i64 (m : Int)]) ∧ (w3.drew.alloc (.cells #[.int .i64 (m : Int)] 3)).grownBy w' (Value.slice vad (us.getD i []).length vcap).ownBlock ∧ ((Value.slice vad (us.getD i []).length vcap).ownBlock = some gg ∨ gg = w3.heap.size + 1)) w3.drew (w3.drew.alloc (.cells #[.int .i64 (m : Int)] 3)) 81 ((us.getD i []).length + 1))
            (fs := #[⟨[65], fun vs _ => vs = [.pointer (some ⟨w.heap.size + 3, 0, none⟩)]⟩, ⟨[66], fun vs _ => vs = [.pointer (some ⟨w.heap.size + 3, 0, none⟩)]⟩, ⟨[67], fun vs _ => vs = [.pointer (some ⟨w.heap.size + 3, 2, none⟩)]⟩, ⟨[68], fun vs _ => vs = [.slice (some ⟨ub, 0, none⟩) ns.length ns.length]⟩, ⟨[69], fun vs _ => vs = [.pointer (some ⟨zx, 1, none⟩)]⟩, ⟨[70], fun vs _ => vs = [.int .i64 (i : Int)]⟩, ⟨[71], fun vs _ => vs = [.pointer (some ⟨w.heap.size + 3, 0, none⟩)]⟩, ⟨[72], fun vs _ => vs = [.pointer (some ⟨w.heap.size + 3, 0, none⟩)]⟩, ⟨[73], fun vs _ => vs = [.pointer (some ⟨w.heap.size + 3, 2, none⟩)]⟩, ⟨[74], fun vs _ => vs = [.slice (some ⟨ub, 0, none⟩) ns.length ns.length]⟩, ⟨[75], fun vs _ => vs = [.pointer (some ⟨zx, 1, none⟩)]⟩, ⟨[76], fun vs _ => vs = [.int .i64 (i : Int)]⟩, ⟨[77], fun vs _ => vs = [.pointer (some ⟨ub, i, none⟩)]⟩, ⟨[78], fun vs _ => vs = [(.slice vad (us.getD i []).length vcap)]⟩, ⟨[79], fun vs _ => vs = [.int .i64 (m : Int)]⟩, ⟨[80], fun vs _ => vs = [.slice (some ⟨w3.heap.size, 0, none⟩) 1 1]⟩, ⟨[81], fun _ _ => True⟩, ⟨[82], fun vs _ => vs = [.pointer (some ⟨ub, i, none⟩)]⟩, ⟨[], fun _ _ => True⟩])
            (by kernel_rfl) 114 rfl (by kernel_rfl) ?stab ?start ?exec ?fin
          case stab =>
            intro k f hf
            have hk : k < 19 := (Array.getElem?_eq_some_iff.1 hf).1
            rcases (show k = 0 ∨ k = 1 ∨ k = 2 ∨ k = 3 ∨ k = 4 ∨ k = 5 ∨ k = 6 ∨ k = 7 ∨ k = 8 ∨ k = 9 ∨ k = 10 ∨ k = 11 ∨ k = 12 ∨ k = 13 ∨ k = 14 ∨ k = 15 ∨ k = 16 ∨ k = 17 ∨ k = 18 by omega) with rfl | rfl | rfl | rfl | rfl | rfl | rfl | rfl | rfl | rfl | rfl | rfl | rfl | rfl | rfl | rfl | rfl | rfl | rfl
            all_goals
              simp only [List.getElem?_toArray, List.getElem?_cons_succ, List.getElem?_cons_zero, Option.some.injEq] at hf
              subst hf
              exact fun _ _ _ h => h
          case start => exact ⟨fun _ _ => rfl, fun _ h => by simp at h, fun _ h => by simp at h, fun h => by simp at h⟩
          case exec =>
            intro j o f hio hf ls act wq hls hsz hI hun hcl hold hpre
            have hj : j < 19 := (Array.getElem?_eq_some_iff.1 hio).1
            rcases (show j = 0 ∨ j = 1 ∨ j = 2 ∨ j = 3 ∨ j = 4 ∨ j = 5 ∨ j = 6 ∨ j = 7 ∨ j = 8 ∨ j = 9 ∨ j = 10 ∨ j = 11 ∨ j = 12 ∨ j = 13 ∨ j = 14 ∨ j = 15 ∨ j = 16 ∨ j = 17 ∨ j = 18 by omega) with rfl | rfl | rfl | rfl | rfl | rfl | rfl | rfl | rfl | rfl | rfl | rfl | rfl | rfl | rfl | rfl | rfl | rfl | rfl
            all_goals
              simp only [List.getElem?_toArray, List.getElem?_cons_succ, List.getElem?_cons_zero, Option.some.injEq] at hio hf
              subst hio hf
              refine ⟨rfl, ?_⟩
            · have g4 : act.tmps.getD 4 undef = .pointer (some ⟨w.heap.size + 3, 0, none⟩) := hold 4 (free_spec (by kernel_rfl))
              refine exec_same (v := .pointer (some ⟨w.heap.size + 3, 0, none⟩)) ?_ ⟨_, rfl, hI.read (by decide) (by decide) (by decide) (by simp), at_one (by omega) rfl⟩
              simp [go_sem, Act.eval, g4]
            · have g65 : act.tmps.getD 65 undef = .pointer (some ⟨w.heap.size + 3, 0, none⟩) := by have := of_one ((hpre ⟨0, .data⟩ (by simp) rfl).2 _ rfl); simpa using this
              refine exec_same (v := .pointer (some ⟨w.heap.size + 3, 0, none⟩)) ?_ ⟨_, rfl, hI.read (by decide) (by decide) (by decide) (by simp), at_one (by omega) rfl⟩
              simp [go_sem, Act.eval, g65]
            · have g66 : act.tmps.getD 66 undef = .pointer (some ⟨w.heap.size + 3, 0, none⟩) := by have := of_one ((hpre ⟨1, .data⟩ (by simp) rfl).2 _ rfl); simpa using this
              refine exec_same (v := .pointer (some ⟨w.heap.size + 3, 2, none⟩)) ?_ ⟨_, rfl, hI.read (by decide) (by decide) (by decide) (by simp), at_one (by omega) rfl⟩
              simp [go_sem, Act.eval, g66]
            · have g67 : act.tmps.getD 67 undef = .pointer (some ⟨w.heap.size + 3, 2, none⟩) := by have := of_one ((hpre ⟨2, .data⟩ (by simp) rfl).2 _ rfl); simpa using this
              have hnd : ls.getD 18 false = false := not_yet hcl 9 (by kernel_rfl) hun
              obtain ⟨p1, p2, p3, p4⟩ := hI.pre (HPR.out _ ((Below.refl _ _).drew)) (HPR.out _ (((Below.refl _ _).drew).alloc (Nat.le_refl _) _)) HPA.out hnd
              refine exec_same (v := .slice (some ⟨ub, 0, none⟩) ns.length ns.length) ?_ ⟨_, rfl, hI.read (by decide) (by decide) (by decide) (by simp), at_one (by omega) rfl⟩
              simp [go_sem, Act.eval, g67, p1]
            · have g10 : act.tmps.getD 10 undef = .pointer (some ⟨zx, 0, none⟩) := hold 10 (free_spec (by kernel_rfl))
              refine exec_same (v := .pointer (some ⟨zx, 1, none⟩)) ?_ ⟨_, rfl, hI.read (by decide) (by decide) (by decide) (by simp), at_one (by omega) rfl⟩
              simp [go_sem, Act.eval, g10]
            · have g69 : act.tmps.getD 69 undef = .pointer (some ⟨zx, 1, none⟩) := by have := of_one ((hpre ⟨4, .data⟩ (by simp) rfl).2 _ rfl); simpa using this
              have hnd : ls.getD 18 false = false := not_yet hcl 9 (by kernel_rfl) hun
              obtain ⟨p1, p2, p3, p4⟩ := hI.pre (HPR.out _ ((Below.refl _ _).drew)) (HPR.out _ (((Below.refl _ _).drew).alloc (Nat.le_refl _) _)) HPA.out hnd
              refine exec_same (v := .int .i64 (i : Int)) ?_ ⟨_, rfl, hI.read (by decide) (by decide) (by decide) (by simp), at_one (by omega) rfl⟩
              simp [go_sem, Act.eval, g69, p4]
            · have g4 : act.tmps.getD 4 undef = .pointer (some ⟨w.heap.size + 3, 0, none⟩) := hold 4 (free_spec (by kernel_rfl))
              refine exec_same (v := .pointer (some ⟨w.heap.size + 3, 0, none⟩)) ?_ ⟨_, rfl, hI.read (by decide) (by decide) (by decide) (by simp), at_one (by omega) rfl⟩
              simp [go_sem, Act.eval, g4]
            · have g71 : act.tmps.getD 71 undef = .pointer (some ⟨w.heap.size + 3, 0, none⟩) := by have := of_one ((hpre ⟨6, .data⟩ (by simp) rfl).2 _ rfl); simpa using this
              refine exec_same (v := .pointer (some ⟨w.heap.size + 3, 0, none⟩)) ?_ ⟨_, rfl, hI.read (by decide) (by decide) (by decide) (by simp), at_one (by omega) rfl⟩
              simp [go_sem, Act.eval, g71]
            · have g72 : act.tmps.getD 72 undef = .pointer (some ⟨w.heap.size + 3, 0, none⟩) := by have := of_one ((hpre ⟨7, .data⟩ (by simp) rfl).2 _ rfl); simpa using this
              refine exec_same (v := .pointer (some ⟨w.heap.size + 3, 2, none⟩)) ?_ ⟨_, rfl, hI.read (by decide) (by decide) (by decide) (by simp), at_one (by omega) rfl⟩
              simp [go_sem, Act.eval, g72]
            · have g73 : act.tmps.getD 73 undef = .pointer (some ⟨w.heap.size + 3, 2, none⟩) := by have := of_one ((hpre ⟨8, .data⟩ (by simp) rfl).2 _ rfl); simpa using this
              have hnd : ls.getD 18 false = false := not_yet hcl 9 (by kernel_rfl) hun
              obtain ⟨p1, p2, p3, p4⟩ := hI.pre (HPR.out _ ((Below.refl _ _).drew)) (HPR.out _ (((Below.refl _ _).drew).alloc (Nat.le_refl _) _)) HPA.out hnd
              refine exec_same (v := .slice (some ⟨ub, 0, none⟩) ns.length ns.length) ?_ ⟨_, rfl, hI.read (by decide) (by decide) (by decide) (by simp), at_one (by omega) rfl⟩
              simp [go_sem, Act.eval, g73, p1]
            · have g10 : act.tmps.getD 10 undef = .pointer (some ⟨zx, 0, none⟩) := hold 10 (free_spec (by kernel_rfl))
              refine exec_same (v := .pointer (some ⟨zx, 1, none⟩)) ?_ ⟨_, rfl, hI.read (by decide) (by decide) (by decide) (by simp), at_one (by omega) rfl⟩
              simp [go_sem, Act.eval, g10]
            · have g75 : act.tmps.getD 75 undef = .pointer (some ⟨zx, 1, none⟩) := by have := of_one ((hpre ⟨10, .data⟩ (by simp) rfl).2 _ rfl); simpa using this
              have hnd : ls.getD 18 false = false := not_yet hcl 9 (by kernel_rfl) hun
              obtain ⟨p1, p2, p3, p4⟩ := hI.pre (HPR.out _ ((Below.refl _ _).drew)) (HPR.out _ (((Below.refl _ _).drew).alloc (Nat.le_refl _) _)) HPA.out hnd
              refine exec_same (v := .int .i64 (i : Int)) ?_ ⟨_, rfl, hI.read (by decide) (by decide) (by decide) (by simp), at_one (by omega) rfl⟩
              simp [go_sem, Act.eval, g75, p4]
            · have g74 : act.tmps.getD 74 undef = .slice (some ⟨ub, 0, none⟩) ns.length ns.length := by have := of_one ((hpre ⟨9, .data⟩ (by simp) rfl).2 _ rfl); simpa using this
              have g76 : act.tmps.getD 76 undef = .int .i64 (i : Int) := by have := of_one ((hpre ⟨11, .data⟩ (by simp) rfl).2 _ rfl); simpa using this
              refine exec_same (v := .pointer (some ⟨ub, i, none⟩)) ?_ ⟨_, rfl, hI.read (by decide) (by decide) (by decide) (by simp), at_one (by omega) rfl⟩
              simp [go_sem, Act.eval, g74, g76, hi0, hi1]
            · have g77 : act.tmps.getD 77 undef = .pointer (some ⟨ub, i, none⟩) := by have := of_one ((hpre ⟨12, .data⟩ (by simp) rfl).2 _ rfl); simpa using this
              have hnd : ls.getD 18 false = false := not_yet hcl 9 (by kernel_rfl) hun
              obtain ⟨p1, p2, p3, p4⟩ := hI.pre (HPR.out _ ((Below.refl _ _).drew)) (HPR.out _ (((Below.refl _ _).drew).alloc (Nat.le_refl _) _)) HPA.out hnd
              refine exec_same (v := (.slice vad (us.getD i []).length vcap)) ?_ ⟨_, rfl, hI.read (by decide) (by decide) (by decide) (by simp), at_one (by omega) rfl⟩
              simp [go_sem, Act.eval, g77, p2]
            · have g5 : act.tmps.getD 5 undef = .int .i64 (m : Int) := hold 5 (free_spec (by kernel_rfl))
              refine exec_same (v := .int .i64 (m : Int)) ?_ ⟨_, rfl, hI.read (by decide) (by decide) (by decide) (by simp), at_one (by omega) rfl⟩
              simp [go_sem, Act.eval, g5]
            · have g79 : act.tmps.getD 79 undef = .int .i64 (m : Int) := by have := of_one ((hpre ⟨14, .data⟩ (by simp) rfl).2 _ rfl); simpa using this
              have hn16 : ls.getD 16 false = false := not_yet hcl 9 (by kernel_rfl) hun
              have hn15 : ls.getD 15 false = false := by have := hun; simp at this ⊢; rcases Nat.lt_or_ge 15 ls.size with h' | h' <;> simp_all
              obtain rfl := hI.a0 hn16 hn15
              refine exec_made (v := .slice (some ⟨w3.heap.size, 0, none⟩) 1 1) (w' := (w3.drew.alloc (.cells #[.int .i64 (m : Int)] 3))) ?_ ⟨_, rfl, ⟨fun h1 h2 => ?_, fun h1 h2 => rfl, fun h1 h2 => ?_, fun h1 => ?_⟩, at_one (by omega) rfl⟩
              · have g79' : act.tmps[79]?.getD undef = .int .i64 (m : Int) := by simpa using g79
                simp [go_sem, Act.eval, g79']
              · rw [set_it (by rw [hls]; simp)] at h2; cases h2
              · rw [set_other (by decide), hn16] at h2; cases h2
              · rw [set_other (by decide)] at h1; have := waits_spec (i := 16) hcl 9 18 (by kernel_rfl) h1; rw [hn16] at this; cases this
            · have g78 : act.tmps.getD 78 undef = (.slice vad (us.getD i []).length vcap) := by have := of_one ((hpre ⟨13, .data⟩ (by simp) rfl).2 _ rfl); simpa using this
              have g80 : act.tmps.getD 80 undef = .slice (some ⟨w3.heap.size, 0, none⟩) 1 1 := by have := of_one ((hpre ⟨15, .data⟩ (by simp) rfl).2 _ rfl); simpa using this
              have hn16 : ls.getD 16 false = false := by have := hun; simp at this ⊢; rcases Nat.lt_or_ge 16 ls.size with h' | h' <;> simp_all
              have hy15 : ls.getD 15 false = true := (hpre ⟨15, .data⟩ (by simp) rfl).1
              have hn18 : ls.getD 18 false = false := not_yet hcl 9 (by kernel_rfl) hun
              obtain rfl := hI.a1 hn16 hy15
              refine wp_append_lies _ (.tmp 78) (.tmp 80) 27 rfl (w.heap.size + 4) 3 i0 _ 1 8 Try.underlying27 hi hz0 hz1 hz2 rfl (by decide) (.slice vad (us.getD i []).length vcap) (us.getD i []).length _ (by simpa [Act.eval] using g78) HOW.out ⟨w3.heap.size, 0, none⟩ 1 1 [.int .i64 (m : Int)] (by simpa [Act.eval] using g80) rfl HNW.out s1.out (by decide) (by unfold maxLen; omega) (by omega) s4.out (w3.heap.size + 1) s5.out ?_
              intro gg cap w4 hown1 hgrow hat hgl
              refine ⟨_, rfl, ⟨fun h1 h2 => ?_, fun h1 h2 => ?_, fun h1 h2 => ⟨gg, cap, put_same _ _ _ (by omega), hown1, hgrow, hat⟩, fun h1 => ?_⟩, trivial⟩
              · rw [set_it (by rw [hls]; simp)] at h1; cases h1
              · rw [set_it (by rw [hls]; simp)] at h1; cases h1
              · rw [set_other (by decide), hn18] at h1; cases h1
            · have g68 : act.tmps.getD 68 undef = .slice (some ⟨ub, 0, none⟩) ns.length ns.length := by have := of_one ((hpre ⟨3, .data⟩ (by simp) rfl).2 _ rfl); simpa using this
              have g70 : act.tmps.getD 70 undef = .int .i64 (i : Int) := by have := of_one ((hpre ⟨5, .data⟩ (by simp) rfl).2 _ rfl); simpa using this
              refine exec_same (v := .pointer (some ⟨ub, i, none⟩)) ?_ ⟨_, rfl, hI.read (by decide) (by decide) (by decide) (by simp), at_one (by omega) rfl⟩
              simp [go_sem, Act.eval, g68, g70, hi0, hi1]
            · have g82 : act.tmps.getD 82 undef = .pointer (some ⟨ub, i, none⟩) := by have := of_one ((hpre ⟨17, .data⟩ (by simp) rfl).2 _ rfl); simpa using this
              have hy16 : ls.getD 16 false = true := (hpre ⟨16, .data⟩ (by simp) rfl).1
              have hn18 : ls.getD 18 false = false := by have := hun; simp at this ⊢; rcases Nat.lt_or_ge 18 ls.size with h' | h' <;> simp_all
              obtain ⟨gg, cap, g81, hap⟩ := hI.b hn18 hy16
              obtain ⟨p1, p2, p3, p4⟩ := HPA.out gg cap wq hap
              have hfi := HFI.out gg cap wq hap
              refine exec_skip (w' := wq.setCell ⟨ub, i, none⟩ (.slice (some ⟨gg, 0, none⟩) ((us.getD i []).length + 1) cap)) ?_ ⟨_, rfl, ⟨fun h1 h2 => ?_, fun h1 h2 => ?_, fun h1 h2 => ?_, fun h1 => hfi⟩, trivial⟩
              · simp [go_sem, Act.eval, g82, g81, p2, p3]
              · rw [set_other (by decide), hy16] at h1; cases h1
              · rw [set_other (by decide), hy16] at h1; cases h1
              · rw [set_it (by rw [hls]; simp)] at h1; cases h1
          case fin =>
            intro zs ls w5 hzl hall hI hF
            obtain ⟨vs5, hS5⟩ := hI.c (hall 18 (by simp))
            obtain ⟨z0, z1, z2, z3, z4, z5, z6, z7, z8, z9, z10, z11, z12, z13, z14, z15, z16, z17, z18, rfl⟩ := list19 zs hzl
            clear hF hall hI hzl HOW HNW HPR HPA HFI s1 s4 s5
            simp only [putAll, Act.put, List.setIfInBounds_toArray, List.set_cons_succ, List.set_cons_zero]
            go_wp2_with fail
            obtain ⟨vad, vcap, hv⟩ := hS5.val hj2
            have hb3 : Below w5.heap.size w5 (w5.drew.alloc (.cells #[.int .i64 (m : Int)] 3)) := ((Below.refl _ _).drew).alloc (Nat.le_refl _) _
            have hrow := hS5.rows j hj2
            rw [hv] at hrow
            have HOW : Hid ((w5.drew.alloc (.cells #[.int .i64 (m : Int)] 3)).ownsRow (w.heap.size + 4) 3 1 (.slice vad ((us.set i (us.getD i [] ++ [m])).getD j []).length vcap) ((us.set i (us.getD i [] ++ [m])).getD j []).length (kI ((us.set i (us.getD i [] ++ [m])).getD j []))) := own_next hrow hb3
            have HNW : Hid (∀ j u, [Value.int .i64 (m : Int)][j]? = some u → (w5.drew.alloc (.cells #[.int .i64 (m : Int)] 3)).cell? ((⟨w5.heap.size, 0, none⟩ : Addr).add j) = some u) := World.news_of_block (cs := #[.int .i64 (m : Int)]) (t := 3) (fr := (0, 0)) (heap_alloc_new w5.drew _)
            have HPR : Hid (∀ w', Below w5.heap.size w5 w' → (fun w' => w'.cell? ⟨w.heap.size + 3, 2, none⟩ = some (.slice (some ⟨ub, 0, none⟩) ns.length ns.length) ∧ w'.cell? ⟨ub, j, none⟩ = some (.slice vad ((us.set i (us.getD i [] ++ [m])).getD j []).length vcap) ∧ w'.frozen? ⟨ub, j, none⟩ = false ∧ w'.cell? ⟨zx, 2, none⟩ = some (.int .i64 (j : Int))) w') := fun w' hb => by
              have t := hS5.next hb
              have e2 := t.cu hj2
              rw [hv] at e2
              exact ⟨t.c2, e2, World.ownsRow.frozenAt t.row j, (cell_of_row _ _ 2 _ _ _ (t.boxes _ _ (List.mem_cons_self ..)).2.1).trans rfl⟩
            have HPA : Hid (∀ gg cap w', (fun gg cap w' => w'.ownsRow (w.heap.size + 4) 3 1 (.slice (some ⟨gg, 0, none⟩) (((us.set i (us.getD i [] ++ [m])).getD j []).length + 1) cap) (((us.set i (us.getD i [] ++ [m])).getD j []).length + 1) (kI ((us.set i (us.getD i [] ++ [m])).getD j []) ++ [.int .i64 (m : Int)]) ∧ (w5.drew.alloc (.cells #[.int .i64 (m : Int)] 3)).grownBy w' (Value.slice vad ((us.set i (us.getD i [] ++ [m])).getD j []).length vcap).ownBlock ∧ ((Value.slice vad ((us.set i (us.getD i [] ++ [m])).getD j []).length vcap).ownBlock = some gg ∨ gg = w5.heap.size + 1)) gg cap w' → (fun w' => w'.cell? ⟨w.heap.size + 3, 2, none⟩ = some (.slice (some ⟨ub, 0, none⟩) ns.length ns.length) ∧ w'.cell? ⟨ub, j, none⟩ = some (.slice vad ((us.set i (us.getD i [] ++ [m])).getD j []).length vcap) ∧ w'.frozen? ⟨ub, j, none⟩ = false ∧ w'.cell? ⟨zx, 2, none⟩ = some (.int .i64 (j : Int))) w') := fun gg cap w' ⟨_, hg, _⟩ => by
              rw [← hv] at hg
              obtain ⟨q1, q2, q3, q4⟩ := hS5.grow hb3 hj2 hg
              rw [hv] at q2
              exact ⟨q1, q2, q3, (cell_of_row _ _ 2 _ _ _ (q4 _ _ (List.mem_cons_self ..))).trans rfl⟩
            have HFI : Hid (∀ gg cap w', (fun gg cap w' => w'.ownsRow (w.heap.size + 4) 3 1 (.slice (some ⟨gg, 0, none⟩) (((us.set i (us.getD i [] ++ [m])).getD j []).length + 1) cap) (((us.set i (us.getD i [] ++ [m])).getD j []).length + 1) (kI ((us.set i (us.getD i [] ++ [m])).getD j []) ++ [.int .i64 (m : Int)]) ∧ (w5.drew.alloc (.cells #[.int .i64 (m : Int)] 3)).grownBy w' (Value.slice vad ((us.set i (us.getD i [] ++ [m])).getD j []).length vcap).ownBlock ∧ ((Value.slice vad ((us.set i (us.getD i [] ++ [m])).getD j []).length vcap).ownBlock = some gg ∨ gg = w5.heap.size + 1)) gg cap w' → (fun w' => ∃ vs', Bd w (w.heap.size + 3) h ub pb ns.length ca (some ⟨bA, oA, none⟩) vs' ((us.set i (us.getD i [] ++ [m])).set j ((us.set i (us.getD i [] ++ [m])).getD j [] ++ [m])) (ps.set m (-1)) [(wr.heap.size, Obj.cells #[.int .i64 xk, .int .i64 0, .int .i64 (i : Int), .int .i64 (j : Int)] 34)] w') (w'.setCell ⟨ub, j, none⟩ (.slice (some ⟨gg, 0, none⟩) (((us.set i (us.getD i [] ++ [m])).getD j []).length + 1) cap))) := fun gg cap w' ⟨ho, hg, hat⟩ => by
              rw [← hv] at hg hat
              exact ⟨_, (hS5.app hb3 hj2 hg ho (by simpa using hat)).tail⟩
            have s1 : Hid (∀ u ∈ [Value.int .i64 (m : Int)], u.oneCell' = true) := by intro u hu; simp at hu; subst hu; rfl
            have s4 : Hid (w.heap.size + 4 ≤ (w5.drew.alloc (.cells #[.int .i64 (m : Int)] 3)).heap.size) := by show _ ≤ _; have := hS5.size; simp; omega
            have s5 : Hid ((w5.drew.alloc (.cells #[.int .i64 (m : Int)] 3)).heap.size = w5.heap.size + 1) := by show _ = _; simp
            clear hrow hb3 hv hS5
            refine wp_region_stagedL (I := StG (fun w' => ∃ vs', Bd w (w.heap.size + 3) h ub pb ns.length ca (some ⟨bA, oA, none⟩) vs' ((us.set i (us.getD i [] ++ [m])).set j ((us.set i (us.getD i [] ++ [m])).getD j [] ++ [m])) (ps.set m (-1)) [(wr.heap.size, Obj.cells #[.int .i64 xk, .int .i64 0, .int .i64 (i : Int), .int .i64 (j : Int)] 34)] w') (fun gg cap w' => w'.ownsRow (w.heap.size + 4) 3 1 (.slice (some ⟨gg, 0, none⟩) (((us.set i (us.getD i [] ++ [m])).getD j []).length + 1) cap) (((us.set i (us.getD i [] ++ [m])).getD j []).length + 1) (kI ((us.set i (us.getD i [] ++ [m])).getD j []) ++ [.int .i64 (m : Int)]) ∧ (w5.drew.alloc (.cells #[.int .i64 (m : Int)] 3)).grownBy w' (Value.slice vad ((us.set i (us.getD i [] ++ [m])).getD j []).length vcap).ownBlock ∧ ((Value.slice vad ((us.set i (us.getD i [] ++ [m])).getD j []).length vcap).ownBlock = some gg ∨ gg = w5.heap.size + 1)) w5.drew (w5.drew.alloc (.cells #[.int .i64 (m : Int)] 3)) 99 (((us.set i (us.getD i [] ++ [m])).getD j []).length + 1))
              (fs := #[⟨[83], fun vs _ => vs = [.pointer (some ⟨w.heap.size + 3, 0, none⟩)]⟩, ⟨[84], fun vs _ => vs = [.pointer (some ⟨w.heap.size + 3, 0, none⟩)]⟩, ⟨[85], fun vs _ => vs = [.pointer (some ⟨w.heap.size + 3, 2, none⟩)]⟩, ⟨[86], fun vs _ => vs = [.slice (some ⟨ub, 0, none⟩) ns.length ns.length]⟩, ⟨[87], fun vs _ => vs = [.pointer (some ⟨zx, 2, none⟩)]⟩, ⟨[88], fun vs _ => vs = [.int .i64 (j : Int)]⟩, ⟨[89], fun vs _ => vs = [.pointer (some ⟨w.heap.size + 3, 0, none⟩)]⟩, ⟨[90], fun vs _ => vs = [.pointer (some ⟨w.heap.size + 3, 0, none⟩)]⟩, ⟨[91], fun vs _ => vs = [.pointer (some ⟨w.heap.size + 3, 2, none⟩)]⟩, ⟨[92], fun vs _ => vs = [.slice (some ⟨ub, 0, none⟩) ns.length ns.length]⟩, ⟨[93], fun vs _ => vs = [.pointer (some ⟨zx, 2, none⟩)]⟩, ⟨[94], fun vs _ => vs = [.int .i64 (j : Int)]⟩, ⟨[95], fun vs _ => vs = [.pointer (some ⟨ub, j, none⟩)]⟩, ⟨[96], fun vs _ => vs = [(.slice vad ((us.set i (us.getD i [] ++ [m])).getD j []).length vcap)]⟩, ⟨[97], fun vs _ => vs = [.int .i64 (m : Int)]⟩, ⟨[98], fun vs _ => vs = [.slice (some ⟨w5.heap.size, 0, none⟩) 1 1]⟩, ⟨[99], fun _ _ => True⟩, ⟨[100], fun vs _ => vs = [.pointer (some ⟨ub, j, none⟩)]⟩, ⟨[], fun _ _ => True⟩])
              (by kernel_rfl) 114 rfl (by kernel_rfl) ?stab ?start ?exec ?fin
            case stab =>
              intro k f hf
              have hk : k < 19 := (Array.getElem?_eq_some_iff.1 hf).1
              rcases (show k = 0 ∨ k = 1 ∨ k = 2 ∨ k = 3 ∨ k = 4 ∨ k = 5 ∨ k = 6 ∨ k = 7 ∨ k = 8 ∨ k = 9 ∨ k = 10 ∨ k = 11 ∨ k = 12 ∨ k = 13 ∨ k = 14 ∨ k = 15 ∨ k = 16 ∨ k = 17 ∨ k = 18 by omega) with rfl | rfl | rfl | rfl | rfl | rfl | rfl | rfl | rfl | rfl | rfl | rfl | rfl | rfl | rfl | rfl | rfl | rfl | rfl
              all_goals
                simp only [List.getElem?_toArray, List.getElem?_cons_succ, List.getElem?_cons_zero, Option.some.injEq] at hf
                subst hf
                exact fun _ _ _ h => h
            case start => exact ⟨fun _ _ => rfl, fun _ h => by simp at h, fun _ h => by simp at h, fun h => by simp at h⟩
            case exec =>
              intro j o f hio hf ls act wq hls hsz hI hun hcl hold hpre
              have hj : j < 19 := (Array.getElem?_eq_some_iff.1 hio).1
              rcases (show j = 0 ∨ j = 1 ∨ j = 2 ∨ j = 3 ∨ j = 4 ∨ j = 5 ∨ j = 6 ∨ j = 7 ∨ j = 8 ∨ j = 9 ∨ j = 10 ∨ j = 11 ∨ j = 12 ∨ j = 13 ∨ j = 14 ∨ j = 15 ∨ j = 16 ∨ j = 17 ∨ j = 18 by omega) with rfl | rfl | rfl | rfl | rfl | rfl | rfl | rfl | rfl | rfl | rfl | rfl | rfl | rfl | rfl | rfl | rfl | rfl | rfl
              all_goals
                simp only [List.getElem?_toArray, List.getElem?_cons_succ, List.getElem?_cons_zero, Option.some.injEq] at hio hf
                subst hio hf
                refine ⟨rfl, ?_⟩
              · have g4 : act.tmps.getD 4 undef = .pointer (some ⟨w.heap.size + 3, 0, none⟩) := hold 4 (free_spec (by kernel_rfl))
                refine exec_same (v := .pointer (some ⟨w.heap.size + 3, 0, none⟩)) ?_ ⟨_, rfl, hI.read (by decide) (by decide) (by decide) (by simp), at_one (by omega) rfl⟩
                simp [go_sem, Act.eval, g4]
              · have g83 : act.tmps.getD 83 undef = .pointer (some ⟨w.heap.size + 3, 0, none⟩) := by have := of_one ((hpre ⟨0, .data⟩ (by simp) rfl).2 _ rfl); simpa using this
                refine exec_same (v := .pointer (some ⟨w.heap.size + 3, 0, none⟩)) ?_ ⟨_, rfl, hI.read (by decide) (by decide) (by decide) (by simp), at_one (by omega) rfl⟩
                simp [go_sem, Act.eval, g83]
              · have g84 : act.tmps.getD 84 undef = .pointer (some ⟨w.heap.size + 3, 0, none⟩) := by have := of_one ((hpre ⟨1, .data⟩ (by simp) rfl).2 _ rfl); simpa using this
                refine exec_same (v := .pointer (some ⟨w.heap.size + 3, 2, none⟩)) ?_ ⟨_, rfl, hI.read (by decide) (by decide) (by decide) (by simp), at_one (by omega) rfl⟩
                simp [go_sem, Act.eval, g84]
              · have g85 : act.tmps.getD 85 undef = .pointer (some ⟨w.heap.size + 3, 2, none⟩) := by have := of_one ((hpre ⟨2, .data⟩ (by simp) rfl).2 _ rfl); simpa using this
                have hnd : ls.getD 18 false = false := not_yet hcl 9 (by kernel_rfl) hun
                obtain ⟨p1, p2, p3, p4⟩ := hI.pre (HPR.out _ ((Below.refl _ _).drew)) (HPR.out _ (((Below.refl _ _).drew).alloc (Nat.le_refl _) _)) HPA.out hnd
                refine exec_same (v := .slice (some ⟨ub, 0, none⟩) ns.length ns.length) ?_ ⟨_, rfl, hI.read (by decide) (by decide) (by decide) (by simp), at_one (by omega) rfl⟩
                simp [go_sem, Act.eval, g85, p1]
              · have g10 : act.tmps.getD 10 undef = .pointer (some ⟨zx, 0, none⟩) := hold 10 (free_spec (by kernel_rfl))
                refine exec_same (v := .pointer (some ⟨zx, 2, none⟩)) ?_ ⟨_, rfl, hI.read (by decide) (by decide) (by decide) (by simp), at_one (by omega) rfl⟩
                simp [go_sem, Act.eval, g10]
              · have g87 : act.tmps.getD 87 undef = .pointer (some ⟨zx, 2, none⟩) := by have := of_one ((hpre ⟨4, .data⟩ (by simp) rfl).2 _ rfl); simpa using this
                have hnd : ls.getD 18 false = false := not_yet hcl 9 (by kernel_rfl) hun
                obtain ⟨p1, p2, p3, p4⟩ := hI.pre (HPR.out _ ((Below.refl _ _).drew)) (HPR.out _ (((Below.refl _ _).drew).alloc (Nat.le_refl _) _)) HPA.out hnd
                refine exec_same (v := .int .i64 (j : Int)) ?_ ⟨_, rfl, hI.read (by decide) (by decide) (by decide) (by simp), at_one (by omega) rfl⟩
                simp [go_sem, Act.eval, g87, p4]
              · have g4 : act.tmps.getD 4 undef = .pointer (some ⟨w.heap.size + 3, 0, none⟩) := hold 4 (free_spec (by kernel_rfl))
                refine exec_same (v := .pointer (some ⟨w.heap.size + 3, 0, none⟩)) ?_ ⟨_, rfl, hI.read (by decide) (by decide) (by decide) (by simp), at_one (by omega) rfl⟩
                simp [go_sem, Act.eval, g4]
              · have g89 : act.tmps.getD 89 undef = .pointer (some ⟨w.heap.size + 3, 0, none⟩) := by have := of_one ((hpre ⟨6, .data⟩ (by simp) rfl).2 _ rfl); simpa using this
                refine exec_same (v := .pointer (some ⟨w.heap.size + 3, 0, none⟩)) ?_ ⟨_, rfl, hI.read (by decide) (by decide) (by decide) (by simp), at_one (by omega) rfl⟩
                simp [go_sem, Act.eval, g89]
              · have g90 : act.tmps.getD 90 undef = .pointer (some ⟨w.heap.size + 3, 0, none⟩) := by have := of_one ((hpre ⟨7, .data⟩ (by simp) rfl).2 _ rfl); simpa using this
                refine exec_same (v := .pointer (some ⟨w.heap.size + 3, 2, none⟩)) ?_ ⟨_, rfl, hI.read (by decide) (by decide) (by decide) (by simp), at_one (by omega) rfl⟩
                simp [go_sem, Act.eval, g90]
              · have g91 : act.tmps.getD 91 undef = .pointer (some ⟨w.heap.size + 3, 2, none⟩) := by have := of_one ((hpre ⟨8, .data⟩ (by simp) rfl).2 _ rfl); simpa using this
                have hnd : ls.getD 18 false = false := not_yet hcl 9 (by kernel_rfl) hun
                obtain ⟨p1, p2, p3, p4⟩ := hI.pre (HPR.out _ ((Below.refl _ _).drew)) (HPR.out _ (((Below.refl _ _).drew).alloc (Nat.le_refl _) _)) HPA.out hnd
                refine exec_same (v := .slice (some ⟨ub, 0, none⟩) ns.length ns.length) ?_ ⟨_, rfl, hI.read (by decide) (by decide) (by decide) (by simp), at_one (by omega) rfl⟩
                simp [go_sem, Act.eval, g91, p1]
              · have g10 : act.tmps.getD 10 undef = .pointer (some ⟨zx, 0, none⟩) := hold 10 (free_spec (by kernel_rfl))
                refine exec_same (v := .pointer (some ⟨zx, 2, none⟩)) ?_ ⟨_, rfl, hI.read (by decide) (by decide) (by decide) (by simp), at_one (by omega) rfl⟩
                simp [go_sem, Act.eval, g10]
              · have g93 : act.tmps.getD 93 undef = .pointer (some ⟨zx, 2, none⟩) := by have := of_one ((hpre ⟨10, .data⟩ (by simp) rfl).2 _ rfl); simpa using this
                have hnd : ls.getD 18 false = false := not_yet hcl 9 (by kernel_rfl) hun
                obtain ⟨p1, p2, p3, p4⟩ := hI.pre (HPR.out _ ((Below.refl _ _).drew)) (HPR.out _ (((Below.refl _ _).drew).alloc (Nat.le_refl _) _)) HPA.out hnd
                refine exec_same (v := .int .i64 (j : Int)) ?_ ⟨_, rfl, hI.read (by decide) (by decide) (by decide) (by simp), at_one (by omega) rfl⟩
                simp [go_sem, Act.eval, g93, p4]
              · have g92 : act.tmps.getD 92 undef = .slice (some ⟨ub, 0, none⟩) ns.length ns.length := by have := of_one ((hpre ⟨9, .data⟩ (by simp) rfl).2 _ rfl); simpa using this
                have g94 : act.tmps.getD 94 undef = .int .i64 (j : Int) := by have := of_one ((hpre ⟨11, .data⟩ (by simp) rfl).2 _ rfl); simpa using this
                refine exec_same (v := .pointer (some ⟨ub, j, none⟩)) ?_ ⟨_, rfl, hI.read (by decide) (by decide) (by decide) (by simp), at_one (by omega) rfl⟩
                simp [go_sem, Act.eval, g92, g94, hj0, hj1]
              · have g95 : act.tmps.getD 95 undef = .pointer (some ⟨ub, j, none⟩) := by have := of_one ((hpre ⟨12, .data⟩ (by simp) rfl).2 _ rfl); simpa using this
                have hnd : ls.getD 18 false = false := not_yet hcl 9 (by kernel_rfl) hun
                obtain ⟨p1, p2, p3, p4⟩ := hI.pre (HPR.out _ ((Below.refl _ _).drew)) (HPR.out _ (((Below.refl _ _).drew).alloc (Nat.le_refl _) _)) HPA.out hnd
                refine exec_same (v := (.slice vad ((us.set i (us.getD i [] ++ [m])).getD j []).length vcap)) ?_ ⟨_, rfl, hI.read (by decide) (by decide) (by decide) (by simp), at_one (by omega) rfl⟩
                simp [go_sem, Act.eval, g95, p2]
              · have g5 : act.tmps.getD 5 undef = .int .i64 (m : Int) := hold 5 (free_spec (by kernel_rfl))
                refine exec_same (v := .int .i64 (m : Int)) ?_ ⟨_, rfl, hI.read (by decide) (by decide) (by decide) (by simp), at_one (by omega) rfl⟩
                simp [go_sem, Act.eval, g5]
              · have g97 : act.tmps.getD 97 undef = .int .i64 (m : Int) := by have := of_one ((hpre ⟨14, .data⟩ (by simp) rfl).2 _ rfl); simpa using this
                have hn16 : ls.getD 16 false = false := not_yet hcl 9 (by kernel_rfl) hun
                have hn15 : ls.getD 15 false = false := by have := hun; simp at this ⊢; rcases Nat.lt_or_ge 15 ls.size with h' | h' <;> simp_all
                obtain rfl := hI.a0 hn16 hn15
                refine exec_made (v := .slice (some ⟨w5.heap.size, 0, none⟩) 1 1) (w' := (w5.drew.alloc (.cells #[.int .i64 (m : Int)] 3))) ?_ ⟨_, rfl, ⟨fun h1 h2 => ?_, fun h1 h2 => rfl, fun h1 h2 => ?_, fun h1 => ?_⟩, at_one (by omega) rfl⟩
                · have g97' : act.tmps[97]?.getD undef = .int .i64 (m : Int) := by simpa using g97
                  simp [go_sem, Act.eval, g97']
                · rw [set_it (by rw [hls]; simp)] at h2; cases h2
                · rw [set_other (by decide), hn16] at h2; cases h2
                · rw [set_other (by decide)] at h1; have := waits_spec (i := 16) hcl 9 18 (by kernel_rfl) h1; rw [hn16] at this; cases this
              · have g96 : act.tmps.getD 96 undef = (.slice vad ((us.set i (us.getD i [] ++ [m])).getD j []).length vcap) := by have := of_one ((hpre ⟨13, .data⟩ (by simp) rfl).2 _ rfl); simpa using this
                have g98 : act.tmps.getD 98 undef = .slice (some ⟨w5.heap.size, 0, none⟩) 1 1 := by have := of_one ((hpre ⟨15, .data⟩ (by simp) rfl).2 _ rfl); simpa using this
                have hn16 : ls.getD 16 false = false := by have := hun; simp at this ⊢; rcases Nat.lt_or_ge 16 ls.size with h' | h' <;> simp_all
                have hy15 : ls.getD 15 false = true := (hpre ⟨15, .data⟩ (by simp) rfl).1
                have hn18 : ls.getD 18 false = false := not_yet hcl 9 (by kernel_rfl) hun
                obtain rfl := hI.a1 hn16 hy15
                refine wp_append_lies _ (.tmp 96) (.tmp 98) 27 rfl (w.heap.size + 4) 3 i0 _ 1 8 Try.underlying27 hi hz0 hz1 hz2 rfl (by decide) (.slice vad ((us.set i (us.getD i [] ++ [m])).getD j []).length vcap) ((us.set i (us.getD i [] ++ [m])).getD j []).length _ (by simpa [Act.eval] using g96) HOW.out ⟨w5.heap.size, 0, none⟩ 1 1 [.int .i64 (m : Int)] (by simpa [Act.eval] using g98) rfl HNW.out s1.out (by decide) (by unfold maxLen; omega) (by omega) s4.out (w5.heap.size + 1) s5.out ?_
                intro gg cap w4 hown1 hgrow hat hgl
                refine ⟨_, rfl, ⟨fun h1 h2 => ?_, fun h1 h2 => ?_, fun h1 h2 => ⟨gg, cap, put_same _ _ _ (by omega), hown1, hgrow, hat⟩, fun h1 => ?_⟩, trivial⟩
                · rw [set_it (by rw [hls]; simp)] at h1; cases h1
                · rw [set_it (by rw [hls]; simp)] at h1; cases h1
                · rw [set_other (by decide), hn18] at h1; cases h1
              · have g86 : act.tmps.getD 86 undef = .slice (some ⟨ub, 0, none⟩) ns.length ns.length := by have := of_one ((hpre ⟨3, .data⟩ (by simp) rfl).2 _ rfl); simpa using this
                have g88 : act.tmps.getD 88 undef = .int .i64 (j : Int) := by have := of_one ((hpre ⟨5, .data⟩ (by simp) rfl).2 _ rfl); simpa using this
                refine exec_same (v := .pointer (some ⟨ub, j, none⟩)) ?_ ⟨_, rfl, hI.read (by decide) (by decide) (by decide) (by simp), at_one (by omega) rfl⟩
                simp [go_sem, Act.eval, g86, g88, hj0, hj1]
              · have g100 : act.tmps.getD 100 undef = .pointer (some ⟨ub, j, none⟩) := by have := of_one ((hpre ⟨17, .data⟩ (by simp) rfl).2 _ rfl); simpa using this
                have hy16 : ls.getD 16 false = true := (hpre ⟨16, .data⟩ (by simp) rfl).1
                have hn18 : ls.getD 18 false = false := by have := hun; simp at this ⊢; rcases Nat.lt_or_ge 18 ls.size with h' | h' <;> simp_all
                obtain ⟨gg, cap, g99, hap⟩ := hI.b hn18 hy16
                obtain ⟨p1, p2, p3, p4⟩ := HPA.out gg cap wq hap
                have hfi := HFI.out gg cap wq hap
                refine exec_skip (w' := wq.setCell ⟨ub, j, none⟩ (.slice (some ⟨gg, 0, none⟩) (((us.set i (us.getD i [] ++ [m])).getD j []).length + 1) cap)) ?_ ⟨_, rfl, ⟨fun h1 h2 => ?_, fun h1 h2 => ?_, fun h1 h2 => ?_, fun h1 => hfi⟩, trivial⟩
                · simp [go_sem, Act.eval, g100, g99, p2, p3]
                · rw [set_other (by decide), hy16] at h1; cases h1
                · rw [set_other (by decide), hy16] at h1; cases h1
                · rw [set_it (by rw [hls]; simp)] at h1; cases h1
            case fin =>
              intro zs ls w7 hzl hall hI hF
              obtain ⟨vs7, hS7⟩ := hI.c (hall 18 (by simp))
              obtain ⟨z0, z1, z2, z3, z4, z5, z6, z7, z8, z9, z10, z11, z12, z13, z14, z15, z16, z17, z18, rfl⟩ := list19 zs hzl
              clear hF hall hI hzl HOW HNW HPR HPA HFI s1 s4 s5
              simp only [putAll, Act.put, List.setIfInBounds_toArray, List.set_cons_succ, List.set_cons_zero]
              have hbx := (hS7.boxes _ _ (List.mem_cons_self ..)).2.1
              have e0 : w7.cell? ⟨wr.heap.size, 0, none⟩ = some (.int .i64 xk) := (cell_of_row _ _ 0 _ _ _ hbx).trans rfl
              have HS6 : Hid _ := hS7.drop
              clear hS7 hbx
              go_wp2_with fail
              go_roundw
              case rel => exact ⟨m + 1, _, _, _, by omega, by go_num, HU2, HP2, HS6⟩
              case measure => simp [intOf] <;> omega
      · obtain rfl : m = ns.length := by omega
        have HRF : Hid (Rof ns a ca w (.pointer (some ⟨w.heap.size + 3, 0, none⟩)) wr) := HS.out.rof hl HA.out HR.out HU.out HP.out
        clear HS HU HP
        go_wp2
        go_ret
        exact ⟨_, rfl, HRF.out⟩
end Go.Proofs.Ytcmmbehnihelcaa
