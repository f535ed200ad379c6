/- Chapter 13's SayOn, the program's. -/
import Derived.Test.YtnjihmailppjkaaNext13
import Derived.Test.YtnjihmailppjkaaSayOn13
import Derived.Test.YtnjihmailppjkaaBldWith
import Derived.Test.YtnjihmailppjkaaTermPut
import Derived.Test.YtnjihmailppjkaaLawClip
import Derived.Deep.RegionHeld3
namespace Go.Proofs.Ytnjihmailppjkaa
open Go.RowKit Go.Maps
set_option linter.unusedVariables false
set_option linter.unusedSimpArgs false

theorem OwnC.setRow {B g : Nat} {w : World} {v : Value} {ns : List Nd} (h : OwnC B w v ns) (hg : g < B) (cs : Array Value) : OwnC B (w.setRow g cs) v ns := by
  obtain ⟨a, cap, cp, e1, e2, h⟩ := h
  exact ⟨a, cap, cp, e1, e2, h.setRow (fun e => by have := (h.lt _ e).1; omega) cs⟩
theorem OwnC.setC {B : Nat} {p : Addr} {w : World} {v u : Value} {ns : List Nd} (h : OwnC B w v ns) (hg : p.block < B) : OwnC B (w.setCell p u) v ns := by
  obtain ⟨a, cap, cp, e1, e2, h⟩ := h
  refine ⟨a, cap, cp, e1, e2, h.1, ?_⟩
  have hn : ∀ k, (Value.slice a ns.length cp).ownBlock = some k → B ≤ k := fun k e => (h.lt k e).1
  rcases h.2 with h0 | ⟨b, cq, cur, e, q1, q2, q3⟩
  · exact .inl h0
  · exact .inr ⟨b, cq, cur, e, q1, (Below.heap_setCell _ _ _ _ (fun eb => by have := hn b (by rw [e]; rfl); omega)).trans q2, q3⟩
theorem own_cap (a : Option Addr) (n c d : Nat) : (Value.slice a n c).ownBlock = (Value.slice a n d).ownBlock := by cases a <;> rfl
theorem OwnC.setOther {B g : Nat} {w : World} {v : Value} {ns : List Nd} (h : OwnC B w v ns) (hg : ∀ (a : Option Addr) (n cp : Nat), OwnN B w (.slice a n cp) ns → (∃ cap, v = .slice a n cap) → (Value.slice a n cp).ownBlock ≠ some g) (cs : Array Value) : OwnC B (w.setRow g cs) v ns := by
  obtain ⟨a, cap, cp, e1, e2, h⟩ := h
  exact ⟨a, cap, cp, e1, e2, h.setRow (hg _ _ _ h ⟨_, e1⟩) cs⟩
set_option maxHeartbeats 6400000 in
set_option maxRecDepth 20000 in
theorem implSayOn_any (a : Option Addr) (cap : Nat) (ns : List Nd) (x : Ch) (b : Int) (w : World) (hl : ns.length ≤ 1048576) (hf : ∀ y ∈ ns, y.Fits) (hx : x.Fits) (hbd : (Lit.int .i64 b).wf = true) (ha : AddrN a cap) (hr : RowN w.heap.size w a ns) :
    Calls Try.prog 18 #[.agg #[.slice a ns.length cap], .agg #[.int .i64 x.a, .int .i64 x.s, .int .i64 x.e, .int .i64 x.q, .int .i64 x.h, .int .i64 x.t, .int .i64 x.u, .int .i64 x.l, .int .i64 x.m], .int .i64 b] w fun e w' => ∃ v, e = .returned (.tuple #[.agg #[v], .agg #[.int .i64 (sayC ns x b).a, .int .i64 (sayC ns x b).s, .int .i64 (sayC ns x b).e, .int .i64 (sayC ns x b).q, .int .i64 (sayC ns x b).h, .int .i64 (sayC ns x b).t, .int .i64 (sayC ns x b).u, .int .i64 (sayC ns x b).l, .int .i64 (sayC ns x b).m], .int .i64 (sayK ns x b)]) ∧ OwnC w.heap.size w' v (sayA ns x b) ∧ Below w.heap.size w w' := by
  obtain ⟨K, HK⟩ : ∃ K, Hid (sayK ns x b = K) := ⟨_, rfl⟩
  obtain ⟨A, HA⟩ : ∃ A, Hid (sayA ns x b = A) := ⟨_, rfl⟩
  obtain ⟨C, HC⟩ : ∃ C, Hid (sayC ns x b = C) := ⟨_, rfl⟩
  rw [HK.out, HA.out, HC.out]
  have F0 := sy4_new w a ns cap x
  have HQN : Hid (C = x ∧ K < 0 ∨ 0 ≤ K ∧ x.q ≤ 10000 ∧ 0 ≤ x.q ∧ C = ⟨x.a, x.s, x.e, x.q + 1, x.h, x.t, x.u, x.l, x.m⟩) := by
    rw [← HK.out, ← HC.out]
    unfold sayK sayC
    cases e : sayB ns x b with
    | false => exact .inl ⟨by simp, by simp⟩
    | true =>
      have h := e
      unfold sayB chanB inB at h
      simp at h
      exact .inr ⟨by simp; omega, by omega, by omega, by simp⟩
  have HPUT : Hid (∀ (v : Value) (wz : World), Below w.heap.size w wz → ToldIs (w.heap.size + 4) wz.heap.size wz (.next x b) v → Calls Try.prog 41 #[v, .agg #[.slice a ns.length cap]] wz fun e w' => ∃ v', e = .returned (.tuple #[.agg #[v'], .int .i64 K]) ∧ OwnC wz.heap.size w' v' A ∧ Below wz.heap.size wz w') := fun v wz hb ht => by
    have := putIn_any (.next x b) v a cap ns wz ⟨hx, hbd⟩ ht hl hf ha (hr.grown hb)
    rw [(next_f ns x b).1, (next_f ns x b).2, HK.out, HA.out] at this
    exact this
  clear ha hr hf hx hbd HK HA HC
  go_enter Try.func18, Try.ntmps18
  go_wp2_with fail
  generalize (((w.alloc (.cells #[.slice a ns.length cap] 39)).alloc (.cells #[.int .i64 x.a, .int .i64 x.s, .int .i64 x.e, .int .i64 x.q, .int .i64 x.h, .int .i64 x.t, .int .i64 x.u, .int .i64 x.l, .int .i64 x.m] 25)).alloc (.cells #[.slice none 0 0] 39)).alloc (.cells #[.int .i64 0, .int .i64 0, .int .i64 0, .int .i64 0, .int .i64 0, .int .i64 0, .int .i64 0, .int .i64 0, .int .i64 0] 25) = w0 at F0 ⊢
  have hd : Below w0.heap.size w0 w0.drew := (Below.refl _ _).drew
  have Fs := F0.next hd
  clear hd
  refine _root_.Go.wp_region_held (S := fun w' : World => w'.cell? ⟨w.heap.size, 0, none⟩ = some (.slice a ns.length cap) ∧ ChIn (w.heap.size + 1) x w') (by kernel_rfl) ?_
  have hS : (fun w' : World => w'.cell? ⟨w.heap.size, 0, none⟩ = some (.slice a ns.length cap) ∧ ChIn (w.heap.size + 1) x w') w0.drew := ⟨(cell_of_row _ _ 0 _ _ _ Fs.arg).trans rfl, ChIn.of Fs.chan⟩
  refine wpAnyH_take (i := 0) (v := ?_) rfl (by kernel_rfl) (by kernel_rfl) (by kernel_rfl) (fun _ _ _ h => h) (Or.inl ⟨by rfl, ?_⟩) hS ?_
  rotate_left
  · intro w hSw; obtain ⟨y0, yN⟩ := hSw; have z0 := yN.c0; have z1 := yN.c1; have z2 := yN.c2; have z3 := yN.c3; have z4 := yN.c4; have z5 := yN.c5; have z6 := yN.c6; have z7 := yN.c7; have z8 := yN.c8; go_simp; try with_reducible rfl
  simp only [Act.put, List.getElem_toArray, List.getElem_cons_zero, List.setIfInBounds_toArray, List.set_cons_succ, List.set_cons_zero]
  refine wpAnyH_take (i := 1) (v := ?_) rfl (by kernel_rfl) (by kernel_rfl) (by kernel_rfl) (fun _ _ _ h => h) (Or.inl ⟨by rfl, ?_⟩) hS ?_
  rotate_left
  · intro w hSw; obtain ⟨y0, yN⟩ := hSw; have z0 := yN.c0; have z1 := yN.c1; have z2 := yN.c2; have z3 := yN.c3; have z4 := yN.c4; have z5 := yN.c5; have z6 := yN.c6; have z7 := yN.c7; have z8 := yN.c8; go_simp; try with_reducible rfl
  simp only [Act.put, List.getElem_toArray, List.getElem_cons_succ, List.getElem_cons_zero, List.setIfInBounds_toArray, List.set_cons_succ, List.set_cons_zero]
  refine wpAnyH_take (i := 3) (v := ?_) rfl (by kernel_rfl) (by kernel_rfl) (by kernel_rfl) (fun _ _ _ h => h) (Or.inl ⟨by rfl, ?_⟩) hS ?_
  rotate_left
  · intro w hSw; obtain ⟨y0, yN⟩ := hSw; have z0 := yN.c0; have z1 := yN.c1; have z2 := yN.c2; have z3 := yN.c3; have z4 := yN.c4; have z5 := yN.c5; have z6 := yN.c6; have z7 := yN.c7; have z8 := yN.c8; go_simp; try with_reducible rfl
  simp only [Act.put, List.getElem_toArray, List.getElem_cons_succ, List.getElem_cons_zero, List.setIfInBounds_toArray, List.set_cons_succ, List.set_cons_zero]
  refine wpAnyH_ready (rs := [2, 8]) (by kernel_rfl) (by simp) ?_
  refine AllReadyH.cons rfl (fun K hK => ?_) (AllReadyH.cons rfl (fun K hK => ?_) AllReadyH.nil)
  · go_simp
    refine Calls.mono (toldNext_any (L := w.heap.size + 4) x b w0.drew Fs.size) ?_
    rintro e w1 ⟨v1, rfl, ht, hb⟩
    have F1 := Fs.next hb
    clear hb Fs
    refine hK.out _ _ ⟨(cell_of_row _ _ 0 _ _ _ F1.arg).trans rfl, ChIn.of F1.chan⟩ (fun hS => ?_)
    clear hK K
    refine wpAnyH_ready (rs := [4, 8]) (by kernel_rfl) (by simp) ?_
    refine AllReadyH.cons rfl (fun K hK => ?_) (AllReadyH.cons rfl (fun K hK => ?_) AllReadyH.nil)
    · go_simp
      refine Calls.mono (HPUT.out _ w1 F1.below ht) ?_
      rintro e w2 ⟨v2, rfl, ho, hb⟩
      obtain ⟨a9, c9, rfl, -, -⟩ := ho.row
      have O : Hid (OwnC (w.heap.size + 4) w2 (.slice a9 A.length c9) A) := ho.base F1.size
      have F2 := F1.next hb
      have hlo : Hid (∀ (a : Option Addr) (n cp : Nat), OwnN (w.heap.size + 4) w2 (.slice a n cp) A → ∀ k, (Value.slice a n cp).ownBlock = some k → k < w2.heap.size) := fun a n cp h k e => (h.lt k e).2
      clear ho ht hb F1
      refine hK.out _ _ ⟨(cell_of_row _ _ 0 _ _ _ F2.arg).trans rfl, ChIn.of F2.chan⟩ (fun hS => ?_)
      clear hK K
      refine wpAnyH_take (i := 5) (v := ?_) rfl (by kernel_rfl) (by kernel_rfl) (by kernel_rfl) (fun _ _ _ h => h) (Or.inl ⟨by rfl, ?_⟩) hS ?_
      rotate_left
      · intro w hSw; obtain ⟨y0, yN⟩ := hSw; have z0 := yN.c0; have z1 := yN.c1; have z2 := yN.c2; have z3 := yN.c3; have z4 := yN.c4; have z5 := yN.c5; have z6 := yN.c6; have z7 := yN.c7; have z8 := yN.c8; go_simp; try with_reducible rfl
      simp only [Act.put, List.getElem_toArray, List.getElem_cons_succ, List.getElem_cons_zero, List.setIfInBounds_toArray, List.set_cons_succ, List.set_cons_zero]
      refine wpAnyH_take (i := 6) (v := ?_) rfl (by kernel_rfl) (by kernel_rfl) (by kernel_rfl) (fun _ _ _ h => h) (Or.inl ⟨by rfl, ?_⟩) hS ?_
      rotate_left
      · intro w hSw; obtain ⟨y0, yN⟩ := hSw; have z0 := yN.c0; have z1 := yN.c1; have z2 := yN.c2; have z3 := yN.c3; have z4 := yN.c4; have z5 := yN.c5; have z6 := yN.c6; have z7 := yN.c7; have z8 := yN.c8; go_simp; try with_reducible rfl
      simp only [Act.put, List.getElem_toArray, List.getElem_cons_succ, List.getElem_cons_zero, List.setIfInBounds_toArray, List.set_cons_succ, List.set_cons_zero]
      refine wpAnyH_take (i := 7) (v := ?_) rfl (by kernel_rfl) (by kernel_rfl) (by kernel_rfl) (fun _ _ _ h => h) (Or.inl ⟨by rfl, ?_⟩) hS ?_
      rotate_left
      · intro w hSw; obtain ⟨y0, yN⟩ := hSw; have z0 := yN.c0; have z1 := yN.c1; have z2 := yN.c2; have z3 := yN.c3; have z4 := yN.c4; have z5 := yN.c5; have z6 := yN.c6; have z7 := yN.c7; have z8 := yN.c8; go_simp; try with_reducible rfl
      simp only [Act.put, List.getElem_toArray, List.getElem_cons_succ, List.getElem_cons_zero, List.setIfInBounds_toArray, List.set_cons_succ, List.set_cons_zero]
      refine wpAnyH_ready (rs := [8]) (by kernel_rfl) (by simp) ?_
      refine AllReadyH.cons rfl (fun K hK => ?_) AllReadyH.nil
      refine ite_yes (by rfl) ?_
      unfold Oper.wp execOp
      simp [go_sem]
      have hb : Below w2.heap.size w2 (w2.alloc (.cells #[.slice none 0 0] 39)) := (Below.refl _ _).alloc (Nat.le_refl _) _
      have F3 := F2.next hb
      have BH : Hid ((w2.alloc (.cells #[.slice none 0 0] 39)).heap[w2.heap.size]? = some (.cells #[.slice none 0 0] 39 (0, 0))) := heap_alloc_new _ _
      have hgl : w.heap.size + 4 ≤ w2.heap.size := F2.size
      have O3 : Hid (OwnC (w.heap.size + 4) (w2.alloc (.cells #[.slice none 0 0] 39)) (.slice a9 A.length c9) A) := O.out.later hb
      have HNE : Hid (∀ (a : Option Addr) (n cp : Nat), OwnN (w.heap.size + 4) (w2.alloc (.cells #[.slice none 0 0] 39)) (.slice a n cp) A → (∃ cap, Value.slice a9 A.length c9 = .slice a n cap) → (Value.slice a n cp).ownBlock ≠ some w2.heap.size) := by
        intro a n cp _ ⟨q, e⟩ e'
        obtain ⟨a', cap', cp', e1, e2, h'⟩ := O.out
        injection e with e3 e4 e5
        injection e1 with e6 e7 e8
        subst e3 e4
        rw [← e6] at h'
        have := (h'.lt w2.heap.size (by rw [← e']; exact own_cap _ _ _ _)).2
        omega
      clear hb F2
      refine hK.out _ _ ⟨(cell_of_row _ _ 0 _ _ _ F3.arg).trans rfl, ChIn.of F3.chan⟩ (fun hS => ?_)
      clear hK K
      generalize hwn : w2.alloc (.cells #[.slice none 0 0] 39) = w3 at F3 BH hS O3 HNE ⊢
      clear hwn
      clear O hlo
      have O := O3
      clear O3
      generalize w2.heap.size = gH at BH hgl HNE ⊢
      refine wpAnyH_ready (rs := [9]) (by kernel_rfl) (by simp) ?_
      refine AllReadyH.cons rfl (fun K hK => ?_) AllReadyH.nil
      refine ite_yes (by rfl) ?_
      refine wp_store_row _ _ _ rfl gH #[.slice a9 A.length c9] rfl rfl 39 #[.slice none 0 0] BH.out arenaSize rfl (by simp [Value.oneCell']) ?_
      have F : Sy4 w a ns.length cap #[.int .i64 x.a, .int .i64 x.s, .int .i64 x.e, .int .i64 x.q, .int .i64 x.h, .int .i64 x.t, .int .i64 x.u, .int .i64 x.l, .int .i64 x.m] (w3.setRow gH #[.slice a9 A.length c9]) := ⟨below_setRow F3.below (by omega) _, by simpa [World.setRow] using F3.size, (setRow_other _ _ _ _ (by omega)).trans F3.arg, (setRow_other _ _ _ _ (by omega)).trans F3.chan, (setRow_other _ _ _ _ (by omega)).trans F3.res, (setRow_other _ _ _ _ (by omega)).trans F3.out⟩
      have BA : Hid ((w3.setRow gH #[.slice a9 A.length c9]).heap[gH]? = some (.cells #[.slice a9 A.length c9] 39 (0, 0))) := setRow_heap _ _ _ _ _ _ BH.out
      have hOb : ∀ k, Hid (∃ cp, (Value.slice a9 A.length cp).ownBlock = some k) → True := fun _ _ => trivial
      have OQ : Hid (OwnC (w.heap.size + 4) (w3.setRow gH #[.slice a9 A.length c9]) (.slice a9 A.length c9) A) := OwnC.setOther O.out HNE.out _
      clear hOb O HNE BH F3
      refine hK.out _ _ ⟨(cell_of_row _ _ 0 _ _ _ F.arg).trans rfl, ChIn.of F.chan⟩ (fun hS => ?_)
      clear hK K
      try simp only [Act.put, List.getElem_toArray, List.getElem_cons_succ, List.getElem_cons_zero, List.setIfInBounds_toArray, List.set_cons_succ, List.set_cons_zero]
      refine wpAnyH_take (i := 10) (v := ?_) rfl (by kernel_rfl) (by kernel_rfl) (by kernel_rfl) (fun _ _ _ h => h) (Or.inl ⟨by rfl, ?_⟩) hS ?_
      rotate_left
      · intro w hSw; obtain ⟨y0, yN⟩ := hSw; have z0 := yN.c0; have z1 := yN.c1; have z2 := yN.c2; have z3 := yN.c3; have z4 := yN.c4; have z5 := yN.c5; have z6 := yN.c6; have z7 := yN.c7; have z8 := yN.c8; go_simp; try with_reducible rfl
      simp only [Act.put, List.getElem_toArray, List.getElem_cons_succ, List.getElem_cons_zero, List.setIfInBounds_toArray, List.set_cons_succ, List.set_cons_zero]
      clear hS
      refine wpAnyH_done (by kernel_rfl) ?_ _
      have hgA2 : gH ≠ w.heap.size + 2 := by omega
      have hgA3 : gH ≠ w.heap.size + 3 := by omega
      have hgC2 : w.heap.size + 1 ≠ w.heap.size + 2 := by omega
      have hgC3 : w.heap.size + 1 ≠ w.heap.size + 3 := by omega
      rcases HQN.out with ⟨hC, hk⟩ | ⟨hk, hq1, hq0, hC⟩
      · have t1 : decide (0 ≤ K) = false := decide_eq_false (by omega)
        go_wp2_with fail
        have BC : Hid ((w3.setRow gH #[.slice a9 A.length c9]).heap[w.heap.size + 1]? = some (.cells #[.int .i64 C.a, .int .i64 C.s, .int .i64 C.e, .int .i64 C.q, .int .i64 C.h, .int .i64 C.t, .int .i64 C.u, .int .i64 C.l, .int .i64 C.m] 25 (0, 0))) := by show _ = _; rw [hC]; exact F.chan
        clear hC hk t1 HQN HPUT
        generalize w3.setRow gH #[.slice a9 A.length c9] = wn at F BA BC OQ ⊢
        have hd : Below wn.heap.size wn wn.drew := (Below.refl _ _).drew
        have Fd := F.next hd
        have BAd := (hd.block _ (Array.getElem?_eq_some_iff.1 BA.out).1).trans BA.out
        have BCd := (hd.block _ (Array.getElem?_eq_some_iff.1 BC.out).1).trans BC.out
        have Od := OQ.out.later hd
        clear F BA BC
        refine _root_.Go.wp_region_held (S := fun w' : World => w'.cell? ⟨gH, 0, none⟩ = some (.slice a9 A.length c9) ∧ ChIn (w.heap.size + 1) C w') (by kernel_rfl) ?_
        have hS : (fun w' : World => w'.cell? ⟨gH, 0, none⟩ = some (.slice a9 A.length c9) ∧ ChIn (w.heap.size + 1) C w') wn.drew := ⟨(cell_of_row _ _ 0 _ _ _ BAd).trans rfl, ChIn.of BCd⟩
        refine wpAnyH_take (i := 0) (v := ?_) rfl (by kernel_rfl) (by kernel_rfl) (by kernel_rfl) (fun _ _ _ h => h) (Or.inl ⟨by rfl, ?_⟩) hS ?_
        rotate_left
        · intro w hSw; obtain ⟨y0, yN⟩ := hSw; have z0 := yN.c0; have z1 := yN.c1; have z2 := yN.c2; have z3 := yN.c3; have z4 := yN.c4; have z5 := yN.c5; have z6 := yN.c6; have z7 := yN.c7; have z8 := yN.c8; go_simp; try with_reducible rfl
        simp only [Act.put, List.getElem_toArray, List.getElem_cons_zero, List.setIfInBounds_toArray, List.set_cons_succ, List.set_cons_zero]
        refine wpAnyH_take (i := 1) (v := ?_) rfl (by kernel_rfl) (by kernel_rfl) (by kernel_rfl) (fun _ _ _ h => h) (Or.inl ⟨by rfl, ?_⟩) hS ?_
        rotate_left
        · intro w hSw; obtain ⟨y0, yN⟩ := hSw; have z0 := yN.c0; have z1 := yN.c1; have z2 := yN.c2; have z3 := yN.c3; have z4 := yN.c4; have z5 := yN.c5; have z6 := yN.c6; have z7 := yN.c7; have z8 := yN.c8; go_simp; try with_reducible rfl
        simp only [Act.put, List.getElem_toArray, List.getElem_cons_succ, List.getElem_cons_zero, List.setIfInBounds_toArray, List.set_cons_succ, List.set_cons_zero]
        refine wpAnyH_take (i := 2) (v := ?_) rfl (by kernel_rfl) (by kernel_rfl) (by kernel_rfl) (fun _ _ _ h => h) (Or.inl ⟨by rfl, ?_⟩) hS ?_
        rotate_left
        · intro w hSw; obtain ⟨y0, yN⟩ := hSw; have z0 := yN.c0; have z1 := yN.c1; have z2 := yN.c2; have z3 := yN.c3; have z4 := yN.c4; have z5 := yN.c5; have z6 := yN.c6; have z7 := yN.c7; have z8 := yN.c8; go_simp; try with_reducible rfl
        simp only [Act.put, List.getElem_toArray, List.getElem_cons_succ, List.getElem_cons_zero, List.setIfInBounds_toArray, List.set_cons_succ, List.set_cons_zero]
        refine wpAnyH_ready (rs := [3]) (by kernel_rfl) (by simp) ?_
        refine AllReadyH.cons rfl (fun K hK => ?_) AllReadyH.nil
        refine ite_yes (by rfl) ?_
        refine wp_store_row _ _ _ rfl (w.heap.size + 2) #[.slice a9 A.length c9] rfl rfl 39 #[.slice none 0 0] Fd.res arenaSize rfl (by simp [Value.oneCell']) ?_
        refine hK.out _ _ ⟨(cell_setRow_other _ _ _ _ hgA2).trans ((cell_of_row _ _ 0 _ _ _ BAd).trans rfl), ChIn.of ((setRow_other _ _ _ _ hgC2).trans BCd)⟩ (fun hS => ?_)
        clear hK K
        try simp only [Act.put, List.getElem_toArray, List.getElem_cons_succ, List.getElem_cons_zero, List.setIfInBounds_toArray, List.set_cons_succ, List.set_cons_zero]
        refine wpAnyH_ready (rs := [4]) (by kernel_rfl) (by simp) ?_
        refine AllReadyH.cons rfl (fun K hK => ?_) AllReadyH.nil
        refine ite_yes (by rfl) ?_
        refine wp_store_row _ _ _ rfl (w.heap.size + 3) #[.int .i64 C.a, .int .i64 C.s, .int .i64 C.e, .int .i64 C.q, .int .i64 C.h, .int .i64 C.t, .int .i64 C.u, .int .i64 C.l, .int .i64 C.m] rfl rfl 25 #[.int .i64 0, .int .i64 0, .int .i64 0, .int .i64 0, .int .i64 0, .int .i64 0, .int .i64 0, .int .i64 0, .int .i64 0] ((setRow_other _ _ _ _ (by omega)).trans Fd.out) chanSize rfl (by simp [Value.oneCell']) ?_
        refine hK.out _ _ ⟨(cell_setRow_other _ _ _ _ hgA3).trans hS.1, ChIn.of ((setRow_other _ _ _ _ hgC3).trans ((setRow_other _ _ _ _ hgC2).trans BCd))⟩ (fun hS => ?_)
        clear hK K
        try simp only [Act.put, List.getElem_toArray, List.getElem_cons_succ, List.getElem_cons_zero, List.setIfInBounds_toArray, List.set_cons_succ, List.set_cons_zero]
        refine wpAnyH_take (i := 5) (v := ?_) rfl (by kernel_rfl) (by kernel_rfl) (by kernel_rfl) (fun _ _ _ h => h) (Or.inl ⟨by rfl, ?_⟩) hS ?_
        rotate_left
        · intro w hSw; obtain ⟨y0, yN⟩ := hSw; have z0 := yN.c0; have z1 := yN.c1; have z2 := yN.c2; have z3 := yN.c3; have z4 := yN.c4; have z5 := yN.c5; have z6 := yN.c6; have z7 := yN.c7; have z8 := yN.c8; go_simp; try with_reducible rfl
        simp only [Act.put, List.getElem_toArray, List.getElem_cons_succ, List.getElem_cons_zero, List.setIfInBounds_toArray, List.set_cons_succ, List.set_cons_zero]
        clear hS
        refine wpAnyH_done (by kernel_rfl) ?_ _
        have HE : Hid (((wn.drew.setRow (w.heap.size + 2) #[.slice a9 A.length c9]).setRow (w.heap.size + 3) #[.int .i64 C.a, .int .i64 C.s, .int .i64 C.e, .int .i64 C.q, .int .i64 C.h, .int .i64 C.t, .int .i64 C.u, .int .i64 C.l, .int .i64 C.m]).heap[(w.heap.size + 2)]? = some (.cells #[.slice a9 A.length c9] 39 (0, 0)) ∧ ((wn.drew.setRow (w.heap.size + 2) #[.slice a9 A.length c9]).setRow (w.heap.size + 3) #[.int .i64 C.a, .int .i64 C.s, .int .i64 C.e, .int .i64 C.q, .int .i64 C.h, .int .i64 C.t, .int .i64 C.u, .int .i64 C.l, .int .i64 C.m]).heap[(w.heap.size + 3)]? = some (.cells #[.int .i64 C.a, .int .i64 C.s, .int .i64 C.e, .int .i64 C.q, .int .i64 C.h, .int .i64 C.t, .int .i64 C.u, .int .i64 C.l, .int .i64 C.m] 25 (0, 0)) ∧ OwnC w.heap.size ((wn.drew.setRow (w.heap.size + 2) #[.slice a9 A.length c9]).setRow (w.heap.size + 3) #[.int .i64 C.a, .int .i64 C.s, .int .i64 C.e, .int .i64 C.q, .int .i64 C.h, .int .i64 C.t, .int .i64 C.u, .int .i64 C.l, .int .i64 C.m]) (.slice a9 A.length c9) A ∧ Below w.heap.size w ((wn.drew.setRow (w.heap.size + 2) #[.slice a9 A.length c9]).setRow (w.heap.size + 3) #[.int .i64 C.a, .int .i64 C.s, .int .i64 C.e, .int .i64 C.q, .int .i64 C.h, .int .i64 C.t, .int .i64 C.u, .int .i64 C.l, .int .i64 C.m])) := ⟨(setRow_other _ _ _ _ (by omega)).trans (setRow_heap _ _ _ _ _ _ Fd.res), setRow_heap _ _ _ _ _ _ ((setRow_other _ _ _ _ (by omega)).trans Fd.out), OwnC.base ((Od.setRow (by omega) _).setRow (by omega) _) (by omega), below_setRow (below_setRow Fd.below (by omega) _) (by omega) _⟩
        clear Fd BAd BCd Od
        go_wp2
        refine bodyPost_ret (res_ccu rfl _ _ (w.heap.size + 2) (w.heap.size + 3) 39 25 #[.slice a9 A.length c9] #[.int .i64 C.a, .int .i64 C.s, .int .i64 C.e, .int .i64 C.q, .int .i64 C.h, .int .i64 C.t, .int .i64 C.u, .int .i64 C.l, .int .i64 C.m] (0, 0) (0, 0) _ _ rfl rfl HE.out.1 HE.out.2.1 Try.underlying39 rfl arenaSize Try.underlying25 rfl chanSize) rfl ?_
        exact ⟨_, rfl, HE.out.2.2.1, HE.out.2.2.2⟩
      · have t1 : decide (0 ≤ K) = true := decide_eq_true hk
        have hwr : wrap64 (x.q + 1) = x.q + 1 := by unfold wrap64; omega
        have k3 : (w3.setRow gH #[.slice a9 A.length c9]).cell? ⟨w.heap.size + 1, 3, none⟩ = some (.int .i64 x.q) := (cell_of_row _ _ 3 _ _ _ F.chan).trans rfl
        have f3 : (w3.setRow gH #[.slice a9 A.length c9]).frozen? ⟨w.heap.size + 1, 3, none⟩ = false := frozen_of_row _ _ 3 _ _ F.chan
        go_wp2_with fail
        have BC : Hid (((w3.setRow gH #[.slice a9 A.length c9]).setCell ⟨w.heap.size + 1, 3, none⟩ (.int .i64 (x.q + 1))).heap[w.heap.size + 1]? = some (.cells #[.int .i64 C.a, .int .i64 C.s, .int .i64 C.e, .int .i64 C.q, .int .i64 C.h, .int .i64 C.t, .int .i64 C.u, .int .i64 C.l, .int .i64 C.m] 25 (0, 0))) := by show _ = _; rw [hC]; exact (heap_setCell_same _ _ 3 _ _ _ F.chan).trans rfl
        have F2 : Sy4 w a ns.length cap #[.int .i64 C.a, .int .i64 C.s, .int .i64 C.e, .int .i64 C.q, .int .i64 C.h, .int .i64 C.t, .int .i64 C.u, .int .i64 C.l, .int .i64 C.m] ((w3.setRow gH #[.slice a9 A.length c9]).setCell ⟨w.heap.size + 1, 3, none⟩ (.int .i64 (x.q + 1))) := ⟨F.below.setCell (show w.heap.size ≤ w.heap.size + 1 by omega) _, by simpa using F.size, (Below.heap_setCell _ _ _ _ (show w.heap.size ≠ w.heap.size + 1 by omega)).trans F.arg, BC.out, (Below.heap_setCell _ _ _ _ (show w.heap.size + 2 ≠ w.heap.size + 1 by omega)).trans F.res, (Below.heap_setCell _ _ _ _ (show w.heap.size + 3 ≠ w.heap.size + 1 by omega)).trans F.out⟩
        have BA2 : Hid (((w3.setRow gH #[.slice a9 A.length c9]).setCell ⟨w.heap.size + 1, 3, none⟩ (.int .i64 (x.q + 1))).heap[gH]? = some (.cells #[.slice a9 A.length c9] 39 (0, 0))) := (Below.heap_setCell _ _ _ _ (show gH ≠ w.heap.size + 1 by omega)).trans BA.out
        have O2 : Hid (OwnC (w.heap.size + 4) ((w3.setRow gH #[.slice a9 A.length c9]).setCell ⟨w.heap.size + 1, 3, none⟩ (.int .i64 (x.q + 1))) (.slice a9 A.length c9) A) := OwnC.setC OQ.out (show w.heap.size + 1 < w.heap.size + 4 by omega)
        clear F BA OQ hC hk t1 k3 f3 hwr HQN HPUT
        generalize (w3.setRow gH #[.slice a9 A.length c9]).setCell ⟨w.heap.size + 1, 3, none⟩ (.int .i64 (x.q + 1)) = wn at F2 BA2 BC O2 ⊢
        have F := F2
        have BA := BA2
        clear F2 BA2
        have hd : Below wn.heap.size wn wn.drew := (Below.refl _ _).drew
        have Fd := F.next hd
        have BAd := (hd.block _ (Array.getElem?_eq_some_iff.1 BA.out).1).trans BA.out
        have BCd := (hd.block _ (Array.getElem?_eq_some_iff.1 BC.out).1).trans BC.out
        have Od := O2.out.later hd
        clear F BA BC
        refine _root_.Go.wp_region_held (S := fun w' : World => w'.cell? ⟨gH, 0, none⟩ = some (.slice a9 A.length c9) ∧ ChIn (w.heap.size + 1) C w') (by kernel_rfl) ?_
        have hS : (fun w' : World => w'.cell? ⟨gH, 0, none⟩ = some (.slice a9 A.length c9) ∧ ChIn (w.heap.size + 1) C w') wn.drew := ⟨(cell_of_row _ _ 0 _ _ _ BAd).trans rfl, ChIn.of BCd⟩
        refine wpAnyH_take (i := 0) (v := ?_) rfl (by kernel_rfl) (by kernel_rfl) (by kernel_rfl) (fun _ _ _ h => h) (Or.inl ⟨by rfl, ?_⟩) hS ?_
        rotate_left
        · intro w hSw; obtain ⟨y0, yN⟩ := hSw; have z0 := yN.c0; have z1 := yN.c1; have z2 := yN.c2; have z3 := yN.c3; have z4 := yN.c4; have z5 := yN.c5; have z6 := yN.c6; have z7 := yN.c7; have z8 := yN.c8; go_simp; try with_reducible rfl
        simp only [Act.put, List.getElem_toArray, List.getElem_cons_zero, List.setIfInBounds_toArray, List.set_cons_succ, List.set_cons_zero]
        refine wpAnyH_take (i := 1) (v := ?_) rfl (by kernel_rfl) (by kernel_rfl) (by kernel_rfl) (fun _ _ _ h => h) (Or.inl ⟨by rfl, ?_⟩) hS ?_
        rotate_left
        · intro w hSw; obtain ⟨y0, yN⟩ := hSw; have z0 := yN.c0; have z1 := yN.c1; have z2 := yN.c2; have z3 := yN.c3; have z4 := yN.c4; have z5 := yN.c5; have z6 := yN.c6; have z7 := yN.c7; have z8 := yN.c8; go_simp; try with_reducible rfl
        simp only [Act.put, List.getElem_toArray, List.getElem_cons_succ, List.getElem_cons_zero, List.setIfInBounds_toArray, List.set_cons_succ, List.set_cons_zero]
        refine wpAnyH_take (i := 2) (v := ?_) rfl (by kernel_rfl) (by kernel_rfl) (by kernel_rfl) (fun _ _ _ h => h) (Or.inl ⟨by rfl, ?_⟩) hS ?_
        rotate_left
        · intro w hSw; obtain ⟨y0, yN⟩ := hSw; have z0 := yN.c0; have z1 := yN.c1; have z2 := yN.c2; have z3 := yN.c3; have z4 := yN.c4; have z5 := yN.c5; have z6 := yN.c6; have z7 := yN.c7; have z8 := yN.c8; go_simp; try with_reducible rfl
        simp only [Act.put, List.getElem_toArray, List.getElem_cons_succ, List.getElem_cons_zero, List.setIfInBounds_toArray, List.set_cons_succ, List.set_cons_zero]
        refine wpAnyH_ready (rs := [3]) (by kernel_rfl) (by simp) ?_
        refine AllReadyH.cons rfl (fun K hK => ?_) AllReadyH.nil
        refine ite_yes (by rfl) ?_
        refine wp_store_row _ _ _ rfl (w.heap.size + 2) #[.slice a9 A.length c9] rfl rfl 39 #[.slice none 0 0] Fd.res arenaSize rfl (by simp [Value.oneCell']) ?_
        refine hK.out _ _ ⟨(cell_setRow_other _ _ _ _ hgA2).trans ((cell_of_row _ _ 0 _ _ _ BAd).trans rfl), ChIn.of ((setRow_other _ _ _ _ hgC2).trans BCd)⟩ (fun hS => ?_)
        clear hK K
        try simp only [Act.put, List.getElem_toArray, List.getElem_cons_succ, List.getElem_cons_zero, List.setIfInBounds_toArray, List.set_cons_succ, List.set_cons_zero]
        refine wpAnyH_ready (rs := [4]) (by kernel_rfl) (by simp) ?_
        refine AllReadyH.cons rfl (fun K hK => ?_) AllReadyH.nil
        refine ite_yes (by rfl) ?_
        refine wp_store_row _ _ _ rfl (w.heap.size + 3) #[.int .i64 C.a, .int .i64 C.s, .int .i64 C.e, .int .i64 C.q, .int .i64 C.h, .int .i64 C.t, .int .i64 C.u, .int .i64 C.l, .int .i64 C.m] rfl rfl 25 #[.int .i64 0, .int .i64 0, .int .i64 0, .int .i64 0, .int .i64 0, .int .i64 0, .int .i64 0, .int .i64 0, .int .i64 0] ((setRow_other _ _ _ _ (by omega)).trans Fd.out) chanSize rfl (by simp [Value.oneCell']) ?_
        refine hK.out _ _ ⟨(cell_setRow_other _ _ _ _ hgA3).trans hS.1, ChIn.of ((setRow_other _ _ _ _ hgC3).trans ((setRow_other _ _ _ _ hgC2).trans BCd))⟩ (fun hS => ?_)
        clear hK K
        try simp only [Act.put, List.getElem_toArray, List.getElem_cons_succ, List.getElem_cons_zero, List.setIfInBounds_toArray, List.set_cons_succ, List.set_cons_zero]
        refine wpAnyH_take (i := 5) (v := ?_) rfl (by kernel_rfl) (by kernel_rfl) (by kernel_rfl) (fun _ _ _ h => h) (Or.inl ⟨by rfl, ?_⟩) hS ?_
        rotate_left
        · intro w hSw; obtain ⟨y0, yN⟩ := hSw; have z0 := yN.c0; have z1 := yN.c1; have z2 := yN.c2; have z3 := yN.c3; have z4 := yN.c4; have z5 := yN.c5; have z6 := yN.c6; have z7 := yN.c7; have z8 := yN.c8; go_simp; try with_reducible rfl
        simp only [Act.put, List.getElem_toArray, List.getElem_cons_succ, List.getElem_cons_zero, List.setIfInBounds_toArray, List.set_cons_succ, List.set_cons_zero]
        clear hS
        refine wpAnyH_done (by kernel_rfl) ?_ _
        have HE : Hid (((wn.drew.setRow (w.heap.size + 2) #[.slice a9 A.length c9]).setRow (w.heap.size + 3) #[.int .i64 C.a, .int .i64 C.s, .int .i64 C.e, .int .i64 C.q, .int .i64 C.h, .int .i64 C.t, .int .i64 C.u, .int .i64 C.l, .int .i64 C.m]).heap[(w.heap.size + 2)]? = some (.cells #[.slice a9 A.length c9] 39 (0, 0)) ∧ ((wn.drew.setRow (w.heap.size + 2) #[.slice a9 A.length c9]).setRow (w.heap.size + 3) #[.int .i64 C.a, .int .i64 C.s, .int .i64 C.e, .int .i64 C.q, .int .i64 C.h, .int .i64 C.t, .int .i64 C.u, .int .i64 C.l, .int .i64 C.m]).heap[(w.heap.size + 3)]? = some (.cells #[.int .i64 C.a, .int .i64 C.s, .int .i64 C.e, .int .i64 C.q, .int .i64 C.h, .int .i64 C.t, .int .i64 C.u, .int .i64 C.l, .int .i64 C.m] 25 (0, 0)) ∧ OwnC w.heap.size ((wn.drew.setRow (w.heap.size + 2) #[.slice a9 A.length c9]).setRow (w.heap.size + 3) #[.int .i64 C.a, .int .i64 C.s, .int .i64 C.e, .int .i64 C.q, .int .i64 C.h, .int .i64 C.t, .int .i64 C.u, .int .i64 C.l, .int .i64 C.m]) (.slice a9 A.length c9) A ∧ Below w.heap.size w ((wn.drew.setRow (w.heap.size + 2) #[.slice a9 A.length c9]).setRow (w.heap.size + 3) #[.int .i64 C.a, .int .i64 C.s, .int .i64 C.e, .int .i64 C.q, .int .i64 C.h, .int .i64 C.t, .int .i64 C.u, .int .i64 C.l, .int .i64 C.m])) := ⟨(setRow_other _ _ _ _ (by omega)).trans (setRow_heap _ _ _ _ _ _ Fd.res), setRow_heap _ _ _ _ _ _ ((setRow_other _ _ _ _ (by omega)).trans Fd.out), OwnC.base ((Od.setRow (by omega) _).setRow (by omega) _) (by omega), below_setRow (below_setRow Fd.below (by omega) _) (by omega) _⟩
        clear Fd BAd BCd Od
        go_wp2
        refine bodyPost_ret (res_ccu rfl _ _ (w.heap.size + 2) (w.heap.size + 3) 39 25 #[.slice a9 A.length c9] #[.int .i64 C.a, .int .i64 C.s, .int .i64 C.e, .int .i64 C.q, .int .i64 C.h, .int .i64 C.t, .int .i64 C.u, .int .i64 C.l, .int .i64 C.m] (0, 0) (0, 0) _ _ rfl rfl HE.out.1 HE.out.2.1 Try.underlying39 rfl arenaSize Try.underlying25 rfl chanSize) rfl ?_
        exact ⟨_, rfl, HE.out.2.2.1, HE.out.2.2.2⟩
    · refine ite_yes (by rfl) ?_
      unfold Oper.wp execOp
      simp [go_sem]
      have hb : Below w1.heap.size w1 (w1.alloc (.cells #[.slice none 0 0] 39)) := (Below.refl _ _).alloc (Nat.le_refl _) _
      have F2 := F1.next hb
      have BH : Hid ((w1.alloc (.cells #[.slice none 0 0] 39)).heap[w1.heap.size]? = some (.cells #[.slice none 0 0] 39 (0, 0))) := heap_alloc_new _ _
      have hgl : w.heap.size + 4 ≤ w1.heap.size := F1.size
      have hgs : w1.heap.size < (w1.alloc (.cells #[.slice none 0 0] 39)).heap.size := by simp
      replace ht := ToldIs.on hb ht
      clear hb F1
      refine hK.out _ _ ⟨(cell_of_row _ _ 0 _ _ _ F2.arg).trans rfl, ChIn.of F2.chan⟩ (fun hS => ?_)
      clear hK K
      generalize hwn : w1.alloc (.cells #[.slice none 0 0] 39) = w2 at F2 BH hS hgs ht ⊢
      clear hwn
      generalize w1.heap.size = gH at BH hgl hgs ⊢
      refine wpAnyH_ready (rs := [4]) (by kernel_rfl) (by simp) ?_
      refine AllReadyH.cons rfl (fun K hK => ?_) AllReadyH.nil
      go_simp
      refine Calls.mono (HPUT.out _ w2 F2.below ht) ?_
      rintro e w3 ⟨v2, rfl, ho, hb⟩
      obtain ⟨a9, c9, rfl, -, -⟩ := ho.row
      have O : Hid (OwnC (w.heap.size + 4) w3 (.slice a9 A.length c9) A) := ho.base F2.size
      have F3 := F2.next hb
      have BH2 : Hid (w3.heap[gH]? = some (.cells #[.slice none 0 0] 39 (0, 0))) := (hb.block _ hgs).trans BH.out
      clear BH
      have BH := BH2
      have HLO : Hid (∀ (a : Option Addr) (n cp : Nat), (∃ cap, Value.slice a9 A.length c9 = .slice a n cap) → ∀ k, (Value.slice a n cp).ownBlock = some k → w2.heap.size ≤ k) := fun a n cp ⟨q, e⟩ k hk => by
        obtain ⟨a', cap', cp', e1, e2, h'⟩ := ho
        injection e with e3 e4 e5
        injection e1 with e6 e7 e8
        subst e3 e4
        have h9 := h'
        rw [← e6] at h9
        exact (h9.lt k (by rw [← hk]; exact (own_cap _ _ _ _))).1
      have HNE : Hid (∀ (a : Option Addr) (n cp : Nat), OwnN (w.heap.size + 4) w3 (.slice a n cp) A → (∃ cap, Value.slice a9 A.length c9 = .slice a n cap) → (Value.slice a n cp).ownBlock ≠ some gH) := fun a n cp _ h e => by have := HLO.out a n cp h gH e; omega
      clear ho ht hb F2
      refine hK.out _ _ ⟨(cell_of_row _ _ 0 _ _ _ F3.arg).trans rfl, ChIn.of F3.chan⟩ (fun hS => ?_)
      clear hK K
      clear BH2 HLO
      refine wpAnyH_take (i := 5) (v := ?_) rfl (by kernel_rfl) (by kernel_rfl) (by kernel_rfl) (fun _ _ _ h => h) (Or.inl ⟨by rfl, ?_⟩) hS ?_
      rotate_left
      · intro w hSw; obtain ⟨y0, yN⟩ := hSw; have z0 := yN.c0; have z1 := yN.c1; have z2 := yN.c2; have z3 := yN.c3; have z4 := yN.c4; have z5 := yN.c5; have z6 := yN.c6; have z7 := yN.c7; have z8 := yN.c8; go_simp; try with_reducible rfl
      simp only [Act.put, List.getElem_toArray, List.getElem_cons_succ, List.getElem_cons_zero, List.setIfInBounds_toArray, List.set_cons_succ, List.set_cons_zero]
      refine wpAnyH_take (i := 6) (v := ?_) rfl (by kernel_rfl) (by kernel_rfl) (by kernel_rfl) (fun _ _ _ h => h) (Or.inl ⟨by rfl, ?_⟩) hS ?_
      rotate_left
      · intro w hSw; obtain ⟨y0, yN⟩ := hSw; have z0 := yN.c0; have z1 := yN.c1; have z2 := yN.c2; have z3 := yN.c3; have z4 := yN.c4; have z5 := yN.c5; have z6 := yN.c6; have z7 := yN.c7; have z8 := yN.c8; go_simp; try with_reducible rfl
      simp only [Act.put, List.getElem_toArray, List.getElem_cons_succ, List.getElem_cons_zero, List.setIfInBounds_toArray, List.set_cons_succ, List.set_cons_zero]
      refine wpAnyH_take (i := 7) (v := ?_) rfl (by kernel_rfl) (by kernel_rfl) (by kernel_rfl) (fun _ _ _ h => h) (Or.inl ⟨by rfl, ?_⟩) hS ?_
      rotate_left
      · intro w hSw; obtain ⟨y0, yN⟩ := hSw; have z0 := yN.c0; have z1 := yN.c1; have z2 := yN.c2; have z3 := yN.c3; have z4 := yN.c4; have z5 := yN.c5; have z6 := yN.c6; have z7 := yN.c7; have z8 := yN.c8; go_simp; try with_reducible rfl
      simp only [Act.put, List.getElem_toArray, List.getElem_cons_succ, List.getElem_cons_zero, List.setIfInBounds_toArray, List.set_cons_succ, List.set_cons_zero]
      refine wpAnyH_ready (rs := [9]) (by kernel_rfl) (by simp) ?_
      refine AllReadyH.cons rfl (fun K hK => ?_) AllReadyH.nil
      refine ite_yes (by rfl) ?_
      refine wp_store_row _ _ _ rfl gH #[.slice a9 A.length c9] rfl rfl 39 #[.slice none 0 0] BH.out arenaSize rfl (by simp [Value.oneCell']) ?_
      have F : Sy4 w a ns.length cap #[.int .i64 x.a, .int .i64 x.s, .int .i64 x.e, .int .i64 x.q, .int .i64 x.h, .int .i64 x.t, .int .i64 x.u, .int .i64 x.l, .int .i64 x.m] (w3.setRow gH #[.slice a9 A.length c9]) := ⟨below_setRow F3.below (by omega) _, by simpa [World.setRow] using F3.size, (setRow_other _ _ _ _ (by omega)).trans F3.arg, (setRow_other _ _ _ _ (by omega)).trans F3.chan, (setRow_other _ _ _ _ (by omega)).trans F3.res, (setRow_other _ _ _ _ (by omega)).trans F3.out⟩
      have BA : Hid ((w3.setRow gH #[.slice a9 A.length c9]).heap[gH]? = some (.cells #[.slice a9 A.length c9] 39 (0, 0))) := setRow_heap _ _ _ _ _ _ BH.out
      have hOb : ∀ k, Hid (∃ cp, (Value.slice a9 A.length cp).ownBlock = some k) → True := fun _ _ => trivial
      have OQ : Hid (OwnC (w.heap.size + 4) (w3.setRow gH #[.slice a9 A.length c9]) (.slice a9 A.length c9) A) := OwnC.setOther O.out HNE.out _
      clear hOb O HNE BH F3
      refine hK.out _ _ ⟨(cell_of_row _ _ 0 _ _ _ F.arg).trans rfl, ChIn.of F.chan⟩ (fun hS => ?_)
      clear hK K
      try simp only [Act.put, List.getElem_toArray, List.getElem_cons_succ, List.getElem_cons_zero, List.setIfInBounds_toArray, List.set_cons_succ, List.set_cons_zero]
      refine wpAnyH_take (i := 10) (v := ?_) rfl (by kernel_rfl) (by kernel_rfl) (by kernel_rfl) (fun _ _ _ h => h) (Or.inl ⟨by rfl, ?_⟩) hS ?_
      rotate_left
      · intro w hSw; obtain ⟨y0, yN⟩ := hSw; have z0 := yN.c0; have z1 := yN.c1; have z2 := yN.c2; have z3 := yN.c3; have z4 := yN.c4; have z5 := yN.c5; have z6 := yN.c6; have z7 := yN.c7; have z8 := yN.c8; go_simp; try with_reducible rfl
      simp only [Act.put, List.getElem_toArray, List.getElem_cons_succ, List.getElem_cons_zero, List.setIfInBounds_toArray, List.set_cons_succ, List.set_cons_zero]
      clear hS
      refine wpAnyH_done (by kernel_rfl) ?_ _
      have hgA2 : gH ≠ w.heap.size + 2 := by omega
      have hgA3 : gH ≠ w.heap.size + 3 := by omega
      have hgC2 : w.heap.size + 1 ≠ w.heap.size + 2 := by omega
      have hgC3 : w.heap.size + 1 ≠ w.heap.size + 3 := by omega
      rcases HQN.out with ⟨hC, hk⟩ | ⟨hk, hq1, hq0, hC⟩
      · have t1 : decide (0 ≤ K) = false := decide_eq_false (by omega)
        go_wp2_with fail
        have BC : Hid ((w3.setRow gH #[.slice a9 A.length c9]).heap[w.heap.size + 1]? = some (.cells #[.int .i64 C.a, .int .i64 C.s, .int .i64 C.e, .int .i64 C.q, .int .i64 C.h, .int .i64 C.t, .int .i64 C.u, .int .i64 C.l, .int .i64 C.m] 25 (0, 0))) := by show _ = _; rw [hC]; exact F.chan
        clear hC hk t1 HQN HPUT
        generalize w3.setRow gH #[.slice a9 A.length c9] = wn at F BA BC OQ ⊢
        have hd : Below wn.heap.size wn wn.drew := (Below.refl _ _).drew
        have Fd := F.next hd
        have BAd := (hd.block _ (Array.getElem?_eq_some_iff.1 BA.out).1).trans BA.out
        have BCd := (hd.block _ (Array.getElem?_eq_some_iff.1 BC.out).1).trans BC.out
        have Od := OQ.out.later hd
        clear F BA BC
        refine _root_.Go.wp_region_held (S := fun w' : World => w'.cell? ⟨gH, 0, none⟩ = some (.slice a9 A.length c9) ∧ ChIn (w.heap.size + 1) C w') (by kernel_rfl) ?_
        have hS : (fun w' : World => w'.cell? ⟨gH, 0, none⟩ = some (.slice a9 A.length c9) ∧ ChIn (w.heap.size + 1) C w') wn.drew := ⟨(cell_of_row _ _ 0 _ _ _ BAd).trans rfl, ChIn.of BCd⟩
        refine wpAnyH_take (i := 0) (v := ?_) rfl (by kernel_rfl) (by kernel_rfl) (by kernel_rfl) (fun _ _ _ h => h) (Or.inl ⟨by rfl, ?_⟩) hS ?_
        rotate_left
        · intro w hSw; obtain ⟨y0, yN⟩ := hSw; have z0 := yN.c0; have z1 := yN.c1; have z2 := yN.c2; have z3 := yN.c3; have z4 := yN.c4; have z5 := yN.c5; have z6 := yN.c6; have z7 := yN.c7; have z8 := yN.c8; go_simp; try with_reducible rfl
        simp only [Act.put, List.getElem_toArray, List.getElem_cons_zero, List.setIfInBounds_toArray, List.set_cons_succ, List.set_cons_zero]
        refine wpAnyH_take (i := 1) (v := ?_) rfl (by kernel_rfl) (by kernel_rfl) (by kernel_rfl) (fun _ _ _ h => h) (Or.inl ⟨by rfl, ?_⟩) hS ?_
        rotate_left
        · intro w hSw; obtain ⟨y0, yN⟩ := hSw; have z0 := yN.c0; have z1 := yN.c1; have z2 := yN.c2; have z3 := yN.c3; have z4 := yN.c4; have z5 := yN.c5; have z6 := yN.c6; have z7 := yN.c7; have z8 := yN.c8; go_simp; try with_reducible rfl
        simp only [Act.put, List.getElem_toArray, List.getElem_cons_succ, List.getElem_cons_zero, List.setIfInBounds_toArray, List.set_cons_succ, List.set_cons_zero]
        refine wpAnyH_take (i := 2) (v := ?_) rfl (by kernel_rfl) (by kernel_rfl) (by kernel_rfl) (fun _ _ _ h => h) (Or.inl ⟨by rfl, ?_⟩) hS ?_
        rotate_left
        · intro w hSw; obtain ⟨y0, yN⟩ := hSw; have z0 := yN.c0; have z1 := yN.c1; have z2 := yN.c2; have z3 := yN.c3; have z4 := yN.c4; have z5 := yN.c5; have z6 := yN.c6; have z7 := yN.c7; have z8 := yN.c8; go_simp; try with_reducible rfl
        simp only [Act.put, List.getElem_toArray, List.getElem_cons_succ, List.getElem_cons_zero, List.setIfInBounds_toArray, List.set_cons_succ, List.set_cons_zero]
        refine wpAnyH_ready (rs := [3]) (by kernel_rfl) (by simp) ?_
        refine AllReadyH.cons rfl (fun K hK => ?_) AllReadyH.nil
        refine ite_yes (by rfl) ?_
        refine wp_store_row _ _ _ rfl (w.heap.size + 2) #[.slice a9 A.length c9] rfl rfl 39 #[.slice none 0 0] Fd.res arenaSize rfl (by simp [Value.oneCell']) ?_
        refine hK.out _ _ ⟨(cell_setRow_other _ _ _ _ hgA2).trans ((cell_of_row _ _ 0 _ _ _ BAd).trans rfl), ChIn.of ((setRow_other _ _ _ _ hgC2).trans BCd)⟩ (fun hS => ?_)
        clear hK K
        try simp only [Act.put, List.getElem_toArray, List.getElem_cons_succ, List.getElem_cons_zero, List.setIfInBounds_toArray, List.set_cons_succ, List.set_cons_zero]
        refine wpAnyH_ready (rs := [4]) (by kernel_rfl) (by simp) ?_
        refine AllReadyH.cons rfl (fun K hK => ?_) AllReadyH.nil
        refine ite_yes (by rfl) ?_
        refine wp_store_row _ _ _ rfl (w.heap.size + 3) #[.int .i64 C.a, .int .i64 C.s, .int .i64 C.e, .int .i64 C.q, .int .i64 C.h, .int .i64 C.t, .int .i64 C.u, .int .i64 C.l, .int .i64 C.m] rfl rfl 25 #[.int .i64 0, .int .i64 0, .int .i64 0, .int .i64 0, .int .i64 0, .int .i64 0, .int .i64 0, .int .i64 0, .int .i64 0] ((setRow_other _ _ _ _ (by omega)).trans Fd.out) chanSize rfl (by simp [Value.oneCell']) ?_
        refine hK.out _ _ ⟨(cell_setRow_other _ _ _ _ hgA3).trans hS.1, ChIn.of ((setRow_other _ _ _ _ hgC3).trans ((setRow_other _ _ _ _ hgC2).trans BCd))⟩ (fun hS => ?_)
        clear hK K
        try simp only [Act.put, List.getElem_toArray, List.getElem_cons_succ, List.getElem_cons_zero, List.setIfInBounds_toArray, List.set_cons_succ, List.set_cons_zero]
        refine wpAnyH_take (i := 5) (v := ?_) rfl (by kernel_rfl) (by kernel_rfl) (by kernel_rfl) (fun _ _ _ h => h) (Or.inl ⟨by rfl, ?_⟩) hS ?_
        rotate_left
        · intro w hSw; obtain ⟨y0, yN⟩ := hSw; have z0 := yN.c0; have z1 := yN.c1; have z2 := yN.c2; have z3 := yN.c3; have z4 := yN.c4; have z5 := yN.c5; have z6 := yN.c6; have z7 := yN.c7; have z8 := yN.c8; go_simp; try with_reducible rfl
        simp only [Act.put, List.getElem_toArray, List.getElem_cons_succ, List.getElem_cons_zero, List.setIfInBounds_toArray, List.set_cons_succ, List.set_cons_zero]
        clear hS
        refine wpAnyH_done (by kernel_rfl) ?_ _
        have HE : Hid (((wn.drew.setRow (w.heap.size + 2) #[.slice a9 A.length c9]).setRow (w.heap.size + 3) #[.int .i64 C.a, .int .i64 C.s, .int .i64 C.e, .int .i64 C.q, .int .i64 C.h, .int .i64 C.t, .int .i64 C.u, .int .i64 C.l, .int .i64 C.m]).heap[(w.heap.size + 2)]? = some (.cells #[.slice a9 A.length c9] 39 (0, 0)) ∧ ((wn.drew.setRow (w.heap.size + 2) #[.slice a9 A.length c9]).setRow (w.heap.size + 3) #[.int .i64 C.a, .int .i64 C.s, .int .i64 C.e, .int .i64 C.q, .int .i64 C.h, .int .i64 C.t, .int .i64 C.u, .int .i64 C.l, .int .i64 C.m]).heap[(w.heap.size + 3)]? = some (.cells #[.int .i64 C.a, .int .i64 C.s, .int .i64 C.e, .int .i64 C.q, .int .i64 C.h, .int .i64 C.t, .int .i64 C.u, .int .i64 C.l, .int .i64 C.m] 25 (0, 0)) ∧ OwnC w.heap.size ((wn.drew.setRow (w.heap.size + 2) #[.slice a9 A.length c9]).setRow (w.heap.size + 3) #[.int .i64 C.a, .int .i64 C.s, .int .i64 C.e, .int .i64 C.q, .int .i64 C.h, .int .i64 C.t, .int .i64 C.u, .int .i64 C.l, .int .i64 C.m]) (.slice a9 A.length c9) A ∧ Below w.heap.size w ((wn.drew.setRow (w.heap.size + 2) #[.slice a9 A.length c9]).setRow (w.heap.size + 3) #[.int .i64 C.a, .int .i64 C.s, .int .i64 C.e, .int .i64 C.q, .int .i64 C.h, .int .i64 C.t, .int .i64 C.u, .int .i64 C.l, .int .i64 C.m])) := ⟨(setRow_other _ _ _ _ (by omega)).trans (setRow_heap _ _ _ _ _ _ Fd.res), setRow_heap _ _ _ _ _ _ ((setRow_other _ _ _ _ (by omega)).trans Fd.out), OwnC.base ((Od.setRow (by omega) _).setRow (by omega) _) (by omega), below_setRow (below_setRow Fd.below (by omega) _) (by omega) _⟩
        clear Fd BAd BCd Od
        go_wp2
        refine bodyPost_ret (res_ccu rfl _ _ (w.heap.size + 2) (w.heap.size + 3) 39 25 #[.slice a9 A.length c9] #[.int .i64 C.a, .int .i64 C.s, .int .i64 C.e, .int .i64 C.q, .int .i64 C.h, .int .i64 C.t, .int .i64 C.u, .int .i64 C.l, .int .i64 C.m] (0, 0) (0, 0) _ _ rfl rfl HE.out.1 HE.out.2.1 Try.underlying39 rfl arenaSize Try.underlying25 rfl chanSize) rfl ?_
        exact ⟨_, rfl, HE.out.2.2.1, HE.out.2.2.2⟩
      · have t1 : decide (0 ≤ K) = true := decide_eq_true hk
        have hwr : wrap64 (x.q + 1) = x.q + 1 := by unfold wrap64; omega
        have k3 : (w3.setRow gH #[.slice a9 A.length c9]).cell? ⟨w.heap.size + 1, 3, none⟩ = some (.int .i64 x.q) := (cell_of_row _ _ 3 _ _ _ F.chan).trans rfl
        have f3 : (w3.setRow gH #[.slice a9 A.length c9]).frozen? ⟨w.heap.size + 1, 3, none⟩ = false := frozen_of_row _ _ 3 _ _ F.chan
        go_wp2_with fail
        have BC : Hid (((w3.setRow gH #[.slice a9 A.length c9]).setCell ⟨w.heap.size + 1, 3, none⟩ (.int .i64 (x.q + 1))).heap[w.heap.size + 1]? = some (.cells #[.int .i64 C.a, .int .i64 C.s, .int .i64 C.e, .int .i64 C.q, .int .i64 C.h, .int .i64 C.t, .int .i64 C.u, .int .i64 C.l, .int .i64 C.m] 25 (0, 0))) := by show _ = _; rw [hC]; exact (heap_setCell_same _ _ 3 _ _ _ F.chan).trans rfl
        have F2 : Sy4 w a ns.length cap #[.int .i64 C.a, .int .i64 C.s, .int .i64 C.e, .int .i64 C.q, .int .i64 C.h, .int .i64 C.t, .int .i64 C.u, .int .i64 C.l, .int .i64 C.m] ((w3.setRow gH #[.slice a9 A.length c9]).setCell ⟨w.heap.size + 1, 3, none⟩ (.int .i64 (x.q + 1))) := ⟨F.below.setCell (show w.heap.size ≤ w.heap.size + 1 by omega) _, by simpa using F.size, (Below.heap_setCell _ _ _ _ (show w.heap.size ≠ w.heap.size + 1 by omega)).trans F.arg, BC.out, (Below.heap_setCell _ _ _ _ (show w.heap.size + 2 ≠ w.heap.size + 1 by omega)).trans F.res, (Below.heap_setCell _ _ _ _ (show w.heap.size + 3 ≠ w.heap.size + 1 by omega)).trans F.out⟩
        have BA2 : Hid (((w3.setRow gH #[.slice a9 A.length c9]).setCell ⟨w.heap.size + 1, 3, none⟩ (.int .i64 (x.q + 1))).heap[gH]? = some (.cells #[.slice a9 A.length c9] 39 (0, 0))) := (Below.heap_setCell _ _ _ _ (show gH ≠ w.heap.size + 1 by omega)).trans BA.out
        have O2 : Hid (OwnC (w.heap.size + 4) ((w3.setRow gH #[.slice a9 A.length c9]).setCell ⟨w.heap.size + 1, 3, none⟩ (.int .i64 (x.q + 1))) (.slice a9 A.length c9) A) := OwnC.setC OQ.out (show w.heap.size + 1 < w.heap.size + 4 by omega)
        clear F BA OQ hC hk t1 k3 f3 hwr HQN HPUT
        generalize (w3.setRow gH #[.slice a9 A.length c9]).setCell ⟨w.heap.size + 1, 3, none⟩ (.int .i64 (x.q + 1)) = wn at F2 BA2 BC O2 ⊢
        have F := F2
        have BA := BA2
        clear F2 BA2
        have hd : Below wn.heap.size wn wn.drew := (Below.refl _ _).drew
        have Fd := F.next hd
        have BAd := (hd.block _ (Array.getElem?_eq_some_iff.1 BA.out).1).trans BA.out
        have BCd := (hd.block _ (Array.getElem?_eq_some_iff.1 BC.out).1).trans BC.out
        have Od := O2.out.later hd
        clear F BA BC
        refine _root_.Go.wp_region_held (S := fun w' : World => w'.cell? ⟨gH, 0, none⟩ = some (.slice a9 A.length c9) ∧ ChIn (w.heap.size + 1) C w') (by kernel_rfl) ?_
        have hS : (fun w' : World => w'.cell? ⟨gH, 0, none⟩ = some (.slice a9 A.length c9) ∧ ChIn (w.heap.size + 1) C w') wn.drew := ⟨(cell_of_row _ _ 0 _ _ _ BAd).trans rfl, ChIn.of BCd⟩
        refine wpAnyH_take (i := 0) (v := ?_) rfl (by kernel_rfl) (by kernel_rfl) (by kernel_rfl) (fun _ _ _ h => h) (Or.inl ⟨by rfl, ?_⟩) hS ?_
        rotate_left
        · intro w hSw; obtain ⟨y0, yN⟩ := hSw; have z0 := yN.c0; have z1 := yN.c1; have z2 := yN.c2; have z3 := yN.c3; have z4 := yN.c4; have z5 := yN.c5; have z6 := yN.c6; have z7 := yN.c7; have z8 := yN.c8; go_simp; try with_reducible rfl
        simp only [Act.put, List.getElem_toArray, List.getElem_cons_zero, List.setIfInBounds_toArray, List.set_cons_succ, List.set_cons_zero]
        refine wpAnyH_take (i := 1) (v := ?_) rfl (by kernel_rfl) (by kernel_rfl) (by kernel_rfl) (fun _ _ _ h => h) (Or.inl ⟨by rfl, ?_⟩) hS ?_
        rotate_left
        · intro w hSw; obtain ⟨y0, yN⟩ := hSw; have z0 := yN.c0; have z1 := yN.c1; have z2 := yN.c2; have z3 := yN.c3; have z4 := yN.c4; have z5 := yN.c5; have z6 := yN.c6; have z7 := yN.c7; have z8 := yN.c8; go_simp; try with_reducible rfl
        simp only [Act.put, List.getElem_toArray, List.getElem_cons_succ, List.getElem_cons_zero, List.setIfInBounds_toArray, List.set_cons_succ, List.set_cons_zero]
        refine wpAnyH_take (i := 2) (v := ?_) rfl (by kernel_rfl) (by kernel_rfl) (by kernel_rfl) (fun _ _ _ h => h) (Or.inl ⟨by rfl, ?_⟩) hS ?_
        rotate_left
        · intro w hSw; obtain ⟨y0, yN⟩ := hSw; have z0 := yN.c0; have z1 := yN.c1; have z2 := yN.c2; have z3 := yN.c3; have z4 := yN.c4; have z5 := yN.c5; have z6 := yN.c6; have z7 := yN.c7; have z8 := yN.c8; go_simp; try with_reducible rfl
        simp only [Act.put, List.getElem_toArray, List.getElem_cons_succ, List.getElem_cons_zero, List.setIfInBounds_toArray, List.set_cons_succ, List.set_cons_zero]
        refine wpAnyH_ready (rs := [3]) (by kernel_rfl) (by simp) ?_
        refine AllReadyH.cons rfl (fun K hK => ?_) AllReadyH.nil
        refine ite_yes (by rfl) ?_
        refine wp_store_row _ _ _ rfl (w.heap.size + 2) #[.slice a9 A.length c9] rfl rfl 39 #[.slice none 0 0] Fd.res arenaSize rfl (by simp [Value.oneCell']) ?_
        refine hK.out _ _ ⟨(cell_setRow_other _ _ _ _ hgA2).trans ((cell_of_row _ _ 0 _ _ _ BAd).trans rfl), ChIn.of ((setRow_other _ _ _ _ hgC2).trans BCd)⟩ (fun hS => ?_)
        clear hK K
        try simp only [Act.put, List.getElem_toArray, List.getElem_cons_succ, List.getElem_cons_zero, List.setIfInBounds_toArray, List.set_cons_succ, List.set_cons_zero]
        refine wpAnyH_ready (rs := [4]) (by kernel_rfl) (by simp) ?_
        refine AllReadyH.cons rfl (fun K hK => ?_) AllReadyH.nil
        refine ite_yes (by rfl) ?_
        refine wp_store_row _ _ _ rfl (w.heap.size + 3) #[.int .i64 C.a, .int .i64 C.s, .int .i64 C.e, .int .i64 C.q, .int .i64 C.h, .int .i64 C.t, .int .i64 C.u, .int .i64 C.l, .int .i64 C.m] rfl rfl 25 #[.int .i64 0, .int .i64 0, .int .i64 0, .int .i64 0, .int .i64 0, .int .i64 0, .int .i64 0, .int .i64 0, .int .i64 0] ((setRow_other _ _ _ _ (by omega)).trans Fd.out) chanSize rfl (by simp [Value.oneCell']) ?_
        refine hK.out _ _ ⟨(cell_setRow_other _ _ _ _ hgA3).trans hS.1, ChIn.of ((setRow_other _ _ _ _ hgC3).trans ((setRow_other _ _ _ _ hgC2).trans BCd))⟩ (fun hS => ?_)
        clear hK K
        try simp only [Act.put, List.getElem_toArray, List.getElem_cons_succ, List.getElem_cons_zero, List.setIfInBounds_toArray, List.set_cons_succ, List.set_cons_zero]
        refine wpAnyH_take (i := 5) (v := ?_) rfl (by kernel_rfl) (by kernel_rfl) (by kernel_rfl) (fun _ _ _ h => h) (Or.inl ⟨by rfl, ?_⟩) hS ?_
        rotate_left
        · intro w hSw; obtain ⟨y0, yN⟩ := hSw; have z0 := yN.c0; have z1 := yN.c1; have z2 := yN.c2; have z3 := yN.c3; have z4 := yN.c4; have z5 := yN.c5; have z6 := yN.c6; have z7 := yN.c7; have z8 := yN.c8; go_simp; try with_reducible rfl
        simp only [Act.put, List.getElem_toArray, List.getElem_cons_succ, List.getElem_cons_zero, List.setIfInBounds_toArray, List.set_cons_succ, List.set_cons_zero]
        clear hS
        refine wpAnyH_done (by kernel_rfl) ?_ _
        have HE : Hid (((wn.drew.setRow (w.heap.size + 2) #[.slice a9 A.length c9]).setRow (w.heap.size + 3) #[.int .i64 C.a, .int .i64 C.s, .int .i64 C.e, .int .i64 C.q, .int .i64 C.h, .int .i64 C.t, .int .i64 C.u, .int .i64 C.l, .int .i64 C.m]).heap[(w.heap.size + 2)]? = some (.cells #[.slice a9 A.length c9] 39 (0, 0)) ∧ ((wn.drew.setRow (w.heap.size + 2) #[.slice a9 A.length c9]).setRow (w.heap.size + 3) #[.int .i64 C.a, .int .i64 C.s, .int .i64 C.e, .int .i64 C.q, .int .i64 C.h, .int .i64 C.t, .int .i64 C.u, .int .i64 C.l, .int .i64 C.m]).heap[(w.heap.size + 3)]? = some (.cells #[.int .i64 C.a, .int .i64 C.s, .int .i64 C.e, .int .i64 C.q, .int .i64 C.h, .int .i64 C.t, .int .i64 C.u, .int .i64 C.l, .int .i64 C.m] 25 (0, 0)) ∧ OwnC w.heap.size ((wn.drew.setRow (w.heap.size + 2) #[.slice a9 A.length c9]).setRow (w.heap.size + 3) #[.int .i64 C.a, .int .i64 C.s, .int .i64 C.e, .int .i64 C.q, .int .i64 C.h, .int .i64 C.t, .int .i64 C.u, .int .i64 C.l, .int .i64 C.m]) (.slice a9 A.length c9) A ∧ Below w.heap.size w ((wn.drew.setRow (w.heap.size + 2) #[.slice a9 A.length c9]).setRow (w.heap.size + 3) #[.int .i64 C.a, .int .i64 C.s, .int .i64 C.e, .int .i64 C.q, .int .i64 C.h, .int .i64 C.t, .int .i64 C.u, .int .i64 C.l, .int .i64 C.m])) := ⟨(setRow_other _ _ _ _ (by omega)).trans (setRow_heap _ _ _ _ _ _ Fd.res), setRow_heap _ _ _ _ _ _ ((setRow_other _ _ _ _ (by omega)).trans Fd.out), OwnC.base ((Od.setRow (by omega) _).setRow (by omega) _) (by omega), below_setRow (below_setRow Fd.below (by omega) _) (by omega) _⟩
        clear Fd BAd BCd Od
        go_wp2
        refine bodyPost_ret (res_ccu rfl _ _ (w.heap.size + 2) (w.heap.size + 3) 39 25 #[.slice a9 A.length c9] #[.int .i64 C.a, .int .i64 C.s, .int .i64 C.e, .int .i64 C.q, .int .i64 C.h, .int .i64 C.t, .int .i64 C.u, .int .i64 C.l, .int .i64 C.m] (0, 0) (0, 0) _ _ rfl rfl HE.out.1 HE.out.2.1 Try.underlying39 rfl arenaSize Try.underlying25 rfl chanSize) rfl ?_
        exact ⟨_, rfl, HE.out.2.2.1, HE.out.2.2.2⟩
  · refine ite_yes (by rfl) ?_
    unfold Oper.wp execOp
    simp [go_sem]
    have hb : Below w0.heap.size w0 ((w0.alloc (.cells #[.slice none 0 0] 39)).drew) := ((Below.refl _ _).alloc (Nat.le_refl _) _).drew
    have F1 := F0.next hb
    have BH : Hid (((w0.alloc (.cells #[.slice none 0 0] 39)).drew).heap[w0.heap.size]? = some (.cells #[.slice none 0 0] 39 (0, 0))) := heap_alloc_new w0 _
    have hgl : w.heap.size + 4 ≤ w0.heap.size := F0.size
    have hgs : w0.heap.size < ((w0.alloc (.cells #[.slice none 0 0] 39)).drew).heap.size := by show _ < (w0.alloc (.cells #[.slice none 0 0] 39)).heap.size; simp
    clear hb F0 Fs
    refine hK.out _ _ ⟨(cell_of_row _ _ 0 _ _ _ F1.arg).trans rfl, ChIn.of F1.chan⟩ (fun hS => ?_)
    clear hK K
    generalize hwn : (w0.alloc (.cells #[.slice none 0 0] 39)).drew = w1 at F1 BH hS hgs ⊢
    clear hwn
    generalize w0.heap.size = gH at BH hgl hgs ⊢
    refine wpAnyH_ready (rs := [2]) (by kernel_rfl) (by simp) ?_
    refine AllReadyH.cons rfl (fun K hK => ?_) AllReadyH.nil
    go_simp
    refine Calls.mono (toldNext_any (L := w.heap.size + 4) x b w1 F1.size) ?_
    rintro e w2 ⟨v1, rfl, ht, hb⟩
    have F2 := F1.next hb
    have BH2 : Hid (w2.heap[gH]? = some (.cells #[.slice none 0 0] 39 (0, 0))) := (hb.block _ hgs).trans BH.out
    have hgs2 : gH < w2.heap.size := Nat.lt_of_lt_of_le hgs hb.size
    clear BH
    clear hb F1
    refine hK.out _ _ ⟨(cell_of_row _ _ 0 _ _ _ F2.arg).trans rfl, ChIn.of F2.chan⟩ (fun hS => ?_)
    clear hK K
    refine wpAnyH_ready (rs := [4]) (by kernel_rfl) (by simp) ?_
    refine AllReadyH.cons rfl (fun K hK => ?_) AllReadyH.nil
    go_simp
    refine Calls.mono (HPUT.out _ w2 F2.below ht) ?_
    rintro e w3 ⟨v2, rfl, ho, hb⟩
    obtain ⟨a9, c9, rfl, -, -⟩ := ho.row
    have O : Hid (OwnC (w.heap.size + 4) w3 (.slice a9 A.length c9) A) := ho.base F2.size
    have F3 := F2.next hb
    have BH : Hid (w3.heap[gH]? = some (.cells #[.slice none 0 0] 39 (0, 0))) := (hb.block _ hgs2).trans BH2.out
    have HLO : Hid (∀ (a : Option Addr) (n cp : Nat), (∃ cap, Value.slice a9 A.length c9 = .slice a n cap) → ∀ k, (Value.slice a n cp).ownBlock = some k → w2.heap.size ≤ k) := fun a n cp ⟨q, e⟩ k hk => by
      obtain ⟨a', cap', cp', e1, e2, h'⟩ := ho
      injection e with e3 e4 e5
      injection e1 with e6 e7 e8
      subst e3 e4
      have h9 := h'
      rw [← e6] at h9
      exact (h9.lt k (by rw [← hk]; exact (own_cap _ _ _ _))).1
    have HNE : Hid (∀ (a : Option Addr) (n cp : Nat), OwnN (w.heap.size + 4) w3 (.slice a n cp) A → (∃ cap, Value.slice a9 A.length c9 = .slice a n cap) → (Value.slice a n cp).ownBlock ≠ some gH) := fun a n cp _ h e => by have := HLO.out a n cp h gH e; omega
    clear ho ht hb F2
    refine hK.out _ _ ⟨(cell_of_row _ _ 0 _ _ _ F3.arg).trans rfl, ChIn.of F3.chan⟩ (fun hS => ?_)
    clear hK K
    clear BH2 HLO
    refine wpAnyH_take (i := 5) (v := ?_) rfl (by kernel_rfl) (by kernel_rfl) (by kernel_rfl) (fun _ _ _ h => h) (Or.inl ⟨by rfl, ?_⟩) hS ?_
    rotate_left
    · intro w hSw; obtain ⟨y0, yN⟩ := hSw; have z0 := yN.c0; have z1 := yN.c1; have z2 := yN.c2; have z3 := yN.c3; have z4 := yN.c4; have z5 := yN.c5; have z6 := yN.c6; have z7 := yN.c7; have z8 := yN.c8; go_simp; try with_reducible rfl
    simp only [Act.put, List.getElem_toArray, List.getElem_cons_succ, List.getElem_cons_zero, List.setIfInBounds_toArray, List.set_cons_succ, List.set_cons_zero]
    refine wpAnyH_take (i := 6) (v := ?_) rfl (by kernel_rfl) (by kernel_rfl) (by kernel_rfl) (fun _ _ _ h => h) (Or.inl ⟨by rfl, ?_⟩) hS ?_
    rotate_left
    · intro w hSw; obtain ⟨y0, yN⟩ := hSw; have z0 := yN.c0; have z1 := yN.c1; have z2 := yN.c2; have z3 := yN.c3; have z4 := yN.c4; have z5 := yN.c5; have z6 := yN.c6; have z7 := yN.c7; have z8 := yN.c8; go_simp; try with_reducible rfl
    simp only [Act.put, List.getElem_toArray, List.getElem_cons_succ, List.getElem_cons_zero, List.setIfInBounds_toArray, List.set_cons_succ, List.set_cons_zero]
    refine wpAnyH_take (i := 7) (v := ?_) rfl (by kernel_rfl) (by kernel_rfl) (by kernel_rfl) (fun _ _ _ h => h) (Or.inl ⟨by rfl, ?_⟩) hS ?_
    rotate_left
    · intro w hSw; obtain ⟨y0, yN⟩ := hSw; have z0 := yN.c0; have z1 := yN.c1; have z2 := yN.c2; have z3 := yN.c3; have z4 := yN.c4; have z5 := yN.c5; have z6 := yN.c6; have z7 := yN.c7; have z8 := yN.c8; go_simp; try with_reducible rfl
    simp only [Act.put, List.getElem_toArray, List.getElem_cons_succ, List.getElem_cons_zero, List.setIfInBounds_toArray, List.set_cons_succ, List.set_cons_zero]
    refine wpAnyH_ready (rs := [9]) (by kernel_rfl) (by simp) ?_
    refine AllReadyH.cons rfl (fun K hK => ?_) AllReadyH.nil
    refine ite_yes (by rfl) ?_
    refine wp_store_row _ _ _ rfl gH #[.slice a9 A.length c9] rfl rfl 39 #[.slice none 0 0] BH.out arenaSize rfl (by simp [Value.oneCell']) ?_
    have F : Sy4 w a ns.length cap #[.int .i64 x.a, .int .i64 x.s, .int .i64 x.e, .int .i64 x.q, .int .i64 x.h, .int .i64 x.t, .int .i64 x.u, .int .i64 x.l, .int .i64 x.m] (w3.setRow gH #[.slice a9 A.length c9]) := ⟨below_setRow F3.below (by omega) _, by simpa [World.setRow] using F3.size, (setRow_other _ _ _ _ (by omega)).trans F3.arg, (setRow_other _ _ _ _ (by omega)).trans F3.chan, (setRow_other _ _ _ _ (by omega)).trans F3.res, (setRow_other _ _ _ _ (by omega)).trans F3.out⟩
    have BA : Hid ((w3.setRow gH #[.slice a9 A.length c9]).heap[gH]? = some (.cells #[.slice a9 A.length c9] 39 (0, 0))) := setRow_heap _ _ _ _ _ _ BH.out
    have hOb : ∀ k, Hid (∃ cp, (Value.slice a9 A.length cp).ownBlock = some k) → True := fun _ _ => trivial
    have OQ : Hid (OwnC (w.heap.size + 4) (w3.setRow gH #[.slice a9 A.length c9]) (.slice a9 A.length c9) A) := OwnC.setOther O.out HNE.out _
    clear hOb O HNE BH F3
    refine hK.out _ _ ⟨(cell_of_row _ _ 0 _ _ _ F.arg).trans rfl, ChIn.of F.chan⟩ (fun hS => ?_)
    clear hK K
    try simp only [Act.put, List.getElem_toArray, List.getElem_cons_succ, List.getElem_cons_zero, List.setIfInBounds_toArray, List.set_cons_succ, List.set_cons_zero]
    refine wpAnyH_take (i := 10) (v := ?_) rfl (by kernel_rfl) (by kernel_rfl) (by kernel_rfl) (fun _ _ _ h => h) (Or.inl ⟨by rfl, ?_⟩) hS ?_
    rotate_left
    · intro w hSw; obtain ⟨y0, yN⟩ := hSw; have z0 := yN.c0; have z1 := yN.c1; have z2 := yN.c2; have z3 := yN.c3; have z4 := yN.c4; have z5 := yN.c5; have z6 := yN.c6; have z7 := yN.c7; have z8 := yN.c8; go_simp; try with_reducible rfl
    simp only [Act.put, List.getElem_toArray, List.getElem_cons_succ, List.getElem_cons_zero, List.setIfInBounds_toArray, List.set_cons_succ, List.set_cons_zero]
    clear hS
    refine wpAnyH_done (by kernel_rfl) ?_ _
    have hgA2 : gH ≠ w.heap.size + 2 := by omega
    have hgA3 : gH ≠ w.heap.size + 3 := by omega
    have hgC2 : w.heap.size + 1 ≠ w.heap.size + 2 := by omega
    have hgC3 : w.heap.size + 1 ≠ w.heap.size + 3 := by omega
    rcases HQN.out with ⟨hC, hk⟩ | ⟨hk, hq1, hq0, hC⟩
    · have t1 : decide (0 ≤ K) = false := decide_eq_false (by omega)
      go_wp2_with fail
      have BC : Hid ((w3.setRow gH #[.slice a9 A.length c9]).heap[w.heap.size + 1]? = some (.cells #[.int .i64 C.a, .int .i64 C.s, .int .i64 C.e, .int .i64 C.q, .int .i64 C.h, .int .i64 C.t, .int .i64 C.u, .int .i64 C.l, .int .i64 C.m] 25 (0, 0))) := by show _ = _; rw [hC]; exact F.chan
      clear hC hk t1 HQN HPUT
      generalize w3.setRow gH #[.slice a9 A.length c9] = wn at F BA BC OQ ⊢
      have hd : Below wn.heap.size wn wn.drew := (Below.refl _ _).drew
      have Fd := F.next hd
      have BAd := (hd.block _ (Array.getElem?_eq_some_iff.1 BA.out).1).trans BA.out
      have BCd := (hd.block _ (Array.getElem?_eq_some_iff.1 BC.out).1).trans BC.out
      have Od := OQ.out.later hd
      clear F BA BC
      refine _root_.Go.wp_region_held (S := fun w' : World => w'.cell? ⟨gH, 0, none⟩ = some (.slice a9 A.length c9) ∧ ChIn (w.heap.size + 1) C w') (by kernel_rfl) ?_
      have hS : (fun w' : World => w'.cell? ⟨gH, 0, none⟩ = some (.slice a9 A.length c9) ∧ ChIn (w.heap.size + 1) C w') wn.drew := ⟨(cell_of_row _ _ 0 _ _ _ BAd).trans rfl, ChIn.of BCd⟩
      refine wpAnyH_take (i := 0) (v := ?_) rfl (by kernel_rfl) (by kernel_rfl) (by kernel_rfl) (fun _ _ _ h => h) (Or.inl ⟨by rfl, ?_⟩) hS ?_
      rotate_left
      · intro w hSw; obtain ⟨y0, yN⟩ := hSw; have z0 := yN.c0; have z1 := yN.c1; have z2 := yN.c2; have z3 := yN.c3; have z4 := yN.c4; have z5 := yN.c5; have z6 := yN.c6; have z7 := yN.c7; have z8 := yN.c8; go_simp; try with_reducible rfl
      simp only [Act.put, List.getElem_toArray, List.getElem_cons_zero, List.setIfInBounds_toArray, List.set_cons_succ, List.set_cons_zero]
      refine wpAnyH_take (i := 1) (v := ?_) rfl (by kernel_rfl) (by kernel_rfl) (by kernel_rfl) (fun _ _ _ h => h) (Or.inl ⟨by rfl, ?_⟩) hS ?_
      rotate_left
      · intro w hSw; obtain ⟨y0, yN⟩ := hSw; have z0 := yN.c0; have z1 := yN.c1; have z2 := yN.c2; have z3 := yN.c3; have z4 := yN.c4; have z5 := yN.c5; have z6 := yN.c6; have z7 := yN.c7; have z8 := yN.c8; go_simp; try with_reducible rfl
      simp only [Act.put, List.getElem_toArray, List.getElem_cons_succ, List.getElem_cons_zero, List.setIfInBounds_toArray, List.set_cons_succ, List.set_cons_zero]
      refine wpAnyH_take (i := 2) (v := ?_) rfl (by kernel_rfl) (by kernel_rfl) (by kernel_rfl) (fun _ _ _ h => h) (Or.inl ⟨by rfl, ?_⟩) hS ?_
      rotate_left
      · intro w hSw; obtain ⟨y0, yN⟩ := hSw; have z0 := yN.c0; have z1 := yN.c1; have z2 := yN.c2; have z3 := yN.c3; have z4 := yN.c4; have z5 := yN.c5; have z6 := yN.c6; have z7 := yN.c7; have z8 := yN.c8; go_simp; try with_reducible rfl
      simp only [Act.put, List.getElem_toArray, List.getElem_cons_succ, List.getElem_cons_zero, List.setIfInBounds_toArray, List.set_cons_succ, List.set_cons_zero]
      refine wpAnyH_ready (rs := [3]) (by kernel_rfl) (by simp) ?_
      refine AllReadyH.cons rfl (fun K hK => ?_) AllReadyH.nil
      refine ite_yes (by rfl) ?_
      refine wp_store_row _ _ _ rfl (w.heap.size + 2) #[.slice a9 A.length c9] rfl rfl 39 #[.slice none 0 0] Fd.res arenaSize rfl (by simp [Value.oneCell']) ?_
      refine hK.out _ _ ⟨(cell_setRow_other _ _ _ _ hgA2).trans ((cell_of_row _ _ 0 _ _ _ BAd).trans rfl), ChIn.of ((setRow_other _ _ _ _ hgC2).trans BCd)⟩ (fun hS => ?_)
      clear hK K
      try simp only [Act.put, List.getElem_toArray, List.getElem_cons_succ, List.getElem_cons_zero, List.setIfInBounds_toArray, List.set_cons_succ, List.set_cons_zero]
      refine wpAnyH_ready (rs := [4]) (by kernel_rfl) (by simp) ?_
      refine AllReadyH.cons rfl (fun K hK => ?_) AllReadyH.nil
      refine ite_yes (by rfl) ?_
      refine wp_store_row _ _ _ rfl (w.heap.size + 3) #[.int .i64 C.a, .int .i64 C.s, .int .i64 C.e, .int .i64 C.q, .int .i64 C.h, .int .i64 C.t, .int .i64 C.u, .int .i64 C.l, .int .i64 C.m] rfl rfl 25 #[.int .i64 0, .int .i64 0, .int .i64 0, .int .i64 0, .int .i64 0, .int .i64 0, .int .i64 0, .int .i64 0, .int .i64 0] ((setRow_other _ _ _ _ (by omega)).trans Fd.out) chanSize rfl (by simp [Value.oneCell']) ?_
      refine hK.out _ _ ⟨(cell_setRow_other _ _ _ _ hgA3).trans hS.1, ChIn.of ((setRow_other _ _ _ _ hgC3).trans ((setRow_other _ _ _ _ hgC2).trans BCd))⟩ (fun hS => ?_)
      clear hK K
      try simp only [Act.put, List.getElem_toArray, List.getElem_cons_succ, List.getElem_cons_zero, List.setIfInBounds_toArray, List.set_cons_succ, List.set_cons_zero]
      refine wpAnyH_take (i := 5) (v := ?_) rfl (by kernel_rfl) (by kernel_rfl) (by kernel_rfl) (fun _ _ _ h => h) (Or.inl ⟨by rfl, ?_⟩) hS ?_
      rotate_left
      · intro w hSw; obtain ⟨y0, yN⟩ := hSw; have z0 := yN.c0; have z1 := yN.c1; have z2 := yN.c2; have z3 := yN.c3; have z4 := yN.c4; have z5 := yN.c5; have z6 := yN.c6; have z7 := yN.c7; have z8 := yN.c8; go_simp; try with_reducible rfl
      simp only [Act.put, List.getElem_toArray, List.getElem_cons_succ, List.getElem_cons_zero, List.setIfInBounds_toArray, List.set_cons_succ, List.set_cons_zero]
      clear hS
      refine wpAnyH_done (by kernel_rfl) ?_ _
      have HE : Hid (((wn.drew.setRow (w.heap.size + 2) #[.slice a9 A.length c9]).setRow (w.heap.size + 3) #[.int .i64 C.a, .int .i64 C.s, .int .i64 C.e, .int .i64 C.q, .int .i64 C.h, .int .i64 C.t, .int .i64 C.u, .int .i64 C.l, .int .i64 C.m]).heap[(w.heap.size + 2)]? = some (.cells #[.slice a9 A.length c9] 39 (0, 0)) ∧ ((wn.drew.setRow (w.heap.size + 2) #[.slice a9 A.length c9]).setRow (w.heap.size + 3) #[.int .i64 C.a, .int .i64 C.s, .int .i64 C.e, .int .i64 C.q, .int .i64 C.h, .int .i64 C.t, .int .i64 C.u, .int .i64 C.l, .int .i64 C.m]).heap[(w.heap.size + 3)]? = some (.cells #[.int .i64 C.a, .int .i64 C.s, .int .i64 C.e, .int .i64 C.q, .int .i64 C.h, .int .i64 C.t, .int .i64 C.u, .int .i64 C.l, .int .i64 C.m] 25 (0, 0)) ∧ OwnC w.heap.size ((wn.drew.setRow (w.heap.size + 2) #[.slice a9 A.length c9]).setRow (w.heap.size + 3) #[.int .i64 C.a, .int .i64 C.s, .int .i64 C.e, .int .i64 C.q, .int .i64 C.h, .int .i64 C.t, .int .i64 C.u, .int .i64 C.l, .int .i64 C.m]) (.slice a9 A.length c9) A ∧ Below w.heap.size w ((wn.drew.setRow (w.heap.size + 2) #[.slice a9 A.length c9]).setRow (w.heap.size + 3) #[.int .i64 C.a, .int .i64 C.s, .int .i64 C.e, .int .i64 C.q, .int .i64 C.h, .int .i64 C.t, .int .i64 C.u, .int .i64 C.l, .int .i64 C.m])) := ⟨(setRow_other _ _ _ _ (by omega)).trans (setRow_heap _ _ _ _ _ _ Fd.res), setRow_heap _ _ _ _ _ _ ((setRow_other _ _ _ _ (by omega)).trans Fd.out), OwnC.base ((Od.setRow (by omega) _).setRow (by omega) _) (by omega), below_setRow (below_setRow Fd.below (by omega) _) (by omega) _⟩
      clear Fd BAd BCd Od
      go_wp2
      refine bodyPost_ret (res_ccu rfl _ _ (w.heap.size + 2) (w.heap.size + 3) 39 25 #[.slice a9 A.length c9] #[.int .i64 C.a, .int .i64 C.s, .int .i64 C.e, .int .i64 C.q, .int .i64 C.h, .int .i64 C.t, .int .i64 C.u, .int .i64 C.l, .int .i64 C.m] (0, 0) (0, 0) _ _ rfl rfl HE.out.1 HE.out.2.1 Try.underlying39 rfl arenaSize Try.underlying25 rfl chanSize) rfl ?_
      exact ⟨_, rfl, HE.out.2.2.1, HE.out.2.2.2⟩
    · have t1 : decide (0 ≤ K) = true := decide_eq_true hk
      have hwr : wrap64 (x.q + 1) = x.q + 1 := by unfold wrap64; omega
      have k3 : (w3.setRow gH #[.slice a9 A.length c9]).cell? ⟨w.heap.size + 1, 3, none⟩ = some (.int .i64 x.q) := (cell_of_row _ _ 3 _ _ _ F.chan).trans rfl
      have f3 : (w3.setRow gH #[.slice a9 A.length c9]).frozen? ⟨w.heap.size + 1, 3, none⟩ = false := frozen_of_row _ _ 3 _ _ F.chan
      go_wp2_with fail
      have BC : Hid (((w3.setRow gH #[.slice a9 A.length c9]).setCell ⟨w.heap.size + 1, 3, none⟩ (.int .i64 (x.q + 1))).heap[w.heap.size + 1]? = some (.cells #[.int .i64 C.a, .int .i64 C.s, .int .i64 C.e, .int .i64 C.q, .int .i64 C.h, .int .i64 C.t, .int .i64 C.u, .int .i64 C.l, .int .i64 C.m] 25 (0, 0))) := by show _ = _; rw [hC]; exact (heap_setCell_same _ _ 3 _ _ _ F.chan).trans rfl
      have F2 : Sy4 w a ns.length cap #[.int .i64 C.a, .int .i64 C.s, .int .i64 C.e, .int .i64 C.q, .int .i64 C.h, .int .i64 C.t, .int .i64 C.u, .int .i64 C.l, .int .i64 C.m] ((w3.setRow gH #[.slice a9 A.length c9]).setCell ⟨w.heap.size + 1, 3, none⟩ (.int .i64 (x.q + 1))) := ⟨F.below.setCell (show w.heap.size ≤ w.heap.size + 1 by omega) _, by simpa using F.size, (Below.heap_setCell _ _ _ _ (show w.heap.size ≠ w.heap.size + 1 by omega)).trans F.arg, BC.out, (Below.heap_setCell _ _ _ _ (show w.heap.size + 2 ≠ w.heap.size + 1 by omega)).trans F.res, (Below.heap_setCell _ _ _ _ (show w.heap.size + 3 ≠ w.heap.size + 1 by omega)).trans F.out⟩
      have BA2 : Hid (((w3.setRow gH #[.slice a9 A.length c9]).setCell ⟨w.heap.size + 1, 3, none⟩ (.int .i64 (x.q + 1))).heap[gH]? = some (.cells #[.slice a9 A.length c9] 39 (0, 0))) := (Below.heap_setCell _ _ _ _ (show gH ≠ w.heap.size + 1 by omega)).trans BA.out
      have O2 : Hid (OwnC (w.heap.size + 4) ((w3.setRow gH #[.slice a9 A.length c9]).setCell ⟨w.heap.size + 1, 3, none⟩ (.int .i64 (x.q + 1))) (.slice a9 A.length c9) A) := OwnC.setC OQ.out (show w.heap.size + 1 < w.heap.size + 4 by omega)
      clear F BA OQ hC hk t1 k3 f3 hwr HQN HPUT
      generalize (w3.setRow gH #[.slice a9 A.length c9]).setCell ⟨w.heap.size + 1, 3, none⟩ (.int .i64 (x.q + 1)) = wn at F2 BA2 BC O2 ⊢
      have F := F2
      have BA := BA2
      clear F2 BA2
      have hd : Below wn.heap.size wn wn.drew := (Below.refl _ _).drew
      have Fd := F.next hd
      have BAd := (hd.block _ (Array.getElem?_eq_some_iff.1 BA.out).1).trans BA.out
      have BCd := (hd.block _ (Array.getElem?_eq_some_iff.1 BC.out).1).trans BC.out
      have Od := O2.out.later hd
      clear F BA BC
      refine _root_.Go.wp_region_held (S := fun w' : World => w'.cell? ⟨gH, 0, none⟩ = some (.slice a9 A.length c9) ∧ ChIn (w.heap.size + 1) C w') (by kernel_rfl) ?_
      have hS : (fun w' : World => w'.cell? ⟨gH, 0, none⟩ = some (.slice a9 A.length c9) ∧ ChIn (w.heap.size + 1) C w') wn.drew := ⟨(cell_of_row _ _ 0 _ _ _ BAd).trans rfl, ChIn.of BCd⟩
      refine wpAnyH_take (i := 0) (v := ?_) rfl (by kernel_rfl) (by kernel_rfl) (by kernel_rfl) (fun _ _ _ h => h) (Or.inl ⟨by rfl, ?_⟩) hS ?_
      rotate_left
      · intro w hSw; obtain ⟨y0, yN⟩ := hSw; have z0 := yN.c0; have z1 := yN.c1; have z2 := yN.c2; have z3 := yN.c3; have z4 := yN.c4; have z5 := yN.c5; have z6 := yN.c6; have z7 := yN.c7; have z8 := yN.c8; go_simp; try with_reducible rfl
      simp only [Act.put, List.getElem_toArray, List.getElem_cons_zero, List.setIfInBounds_toArray, List.set_cons_succ, List.set_cons_zero]
      refine wpAnyH_take (i := 1) (v := ?_) rfl (by kernel_rfl) (by kernel_rfl) (by kernel_rfl) (fun _ _ _ h => h) (Or.inl ⟨by rfl, ?_⟩) hS ?_
      rotate_left
      · intro w hSw; obtain ⟨y0, yN⟩ := hSw; have z0 := yN.c0; have z1 := yN.c1; have z2 := yN.c2; have z3 := yN.c3; have z4 := yN.c4; have z5 := yN.c5; have z6 := yN.c6; have z7 := yN.c7; have z8 := yN.c8; go_simp; try with_reducible rfl
      simp only [Act.put, List.getElem_toArray, List.getElem_cons_succ, List.getElem_cons_zero, List.setIfInBounds_toArray, List.set_cons_succ, List.set_cons_zero]
      refine wpAnyH_take (i := 2) (v := ?_) rfl (by kernel_rfl) (by kernel_rfl) (by kernel_rfl) (fun _ _ _ h => h) (Or.inl ⟨by rfl, ?_⟩) hS ?_
      rotate_left
      · intro w hSw; obtain ⟨y0, yN⟩ := hSw; have z0 := yN.c0; have z1 := yN.c1; have z2 := yN.c2; have z3 := yN.c3; have z4 := yN.c4; have z5 := yN.c5; have z6 := yN.c6; have z7 := yN.c7; have z8 := yN.c8; go_simp; try with_reducible rfl
      simp only [Act.put, List.getElem_toArray, List.getElem_cons_succ, List.getElem_cons_zero, List.setIfInBounds_toArray, List.set_cons_succ, List.set_cons_zero]
      refine wpAnyH_ready (rs := [3]) (by kernel_rfl) (by simp) ?_
      refine AllReadyH.cons rfl (fun K hK => ?_) AllReadyH.nil
      refine ite_yes (by rfl) ?_
      refine wp_store_row _ _ _ rfl (w.heap.size + 2) #[.slice a9 A.length c9] rfl rfl 39 #[.slice none 0 0] Fd.res arenaSize rfl (by simp [Value.oneCell']) ?_
      refine hK.out _ _ ⟨(cell_setRow_other _ _ _ _ hgA2).trans ((cell_of_row _ _ 0 _ _ _ BAd).trans rfl), ChIn.of ((setRow_other _ _ _ _ hgC2).trans BCd)⟩ (fun hS => ?_)
      clear hK K
      try simp only [Act.put, List.getElem_toArray, List.getElem_cons_succ, List.getElem_cons_zero, List.setIfInBounds_toArray, List.set_cons_succ, List.set_cons_zero]
      refine wpAnyH_ready (rs := [4]) (by kernel_rfl) (by simp) ?_
      refine AllReadyH.cons rfl (fun K hK => ?_) AllReadyH.nil
      refine ite_yes (by rfl) ?_
      refine wp_store_row _ _ _ rfl (w.heap.size + 3) #[.int .i64 C.a, .int .i64 C.s, .int .i64 C.e, .int .i64 C.q, .int .i64 C.h, .int .i64 C.t, .int .i64 C.u, .int .i64 C.l, .int .i64 C.m] rfl rfl 25 #[.int .i64 0, .int .i64 0, .int .i64 0, .int .i64 0, .int .i64 0, .int .i64 0, .int .i64 0, .int .i64 0, .int .i64 0] ((setRow_other _ _ _ _ (by omega)).trans Fd.out) chanSize rfl (by simp [Value.oneCell']) ?_
      refine hK.out _ _ ⟨(cell_setRow_other _ _ _ _ hgA3).trans hS.1, ChIn.of ((setRow_other _ _ _ _ hgC3).trans ((setRow_other _ _ _ _ hgC2).trans BCd))⟩ (fun hS => ?_)
      clear hK K
      try simp only [Act.put, List.getElem_toArray, List.getElem_cons_succ, List.getElem_cons_zero, List.setIfInBounds_toArray, List.set_cons_succ, List.set_cons_zero]
      refine wpAnyH_take (i := 5) (v := ?_) rfl (by kernel_rfl) (by kernel_rfl) (by kernel_rfl) (fun _ _ _ h => h) (Or.inl ⟨by rfl, ?_⟩) hS ?_
      rotate_left
      · intro w hSw; obtain ⟨y0, yN⟩ := hSw; have z0 := yN.c0; have z1 := yN.c1; have z2 := yN.c2; have z3 := yN.c3; have z4 := yN.c4; have z5 := yN.c5; have z6 := yN.c6; have z7 := yN.c7; have z8 := yN.c8; go_simp; try with_reducible rfl
      simp only [Act.put, List.getElem_toArray, List.getElem_cons_succ, List.getElem_cons_zero, List.setIfInBounds_toArray, List.set_cons_succ, List.set_cons_zero]
      clear hS
      refine wpAnyH_done (by kernel_rfl) ?_ _
      have HE : Hid (((wn.drew.setRow (w.heap.size + 2) #[.slice a9 A.length c9]).setRow (w.heap.size + 3) #[.int .i64 C.a, .int .i64 C.s, .int .i64 C.e, .int .i64 C.q, .int .i64 C.h, .int .i64 C.t, .int .i64 C.u, .int .i64 C.l, .int .i64 C.m]).heap[(w.heap.size + 2)]? = some (.cells #[.slice a9 A.length c9] 39 (0, 0)) ∧ ((wn.drew.setRow (w.heap.size + 2) #[.slice a9 A.length c9]).setRow (w.heap.size + 3) #[.int .i64 C.a, .int .i64 C.s, .int .i64 C.e, .int .i64 C.q, .int .i64 C.h, .int .i64 C.t, .int .i64 C.u, .int .i64 C.l, .int .i64 C.m]).heap[(w.heap.size + 3)]? = some (.cells #[.int .i64 C.a, .int .i64 C.s, .int .i64 C.e, .int .i64 C.q, .int .i64 C.h, .int .i64 C.t, .int .i64 C.u, .int .i64 C.l, .int .i64 C.m] 25 (0, 0)) ∧ OwnC w.heap.size ((wn.drew.setRow (w.heap.size + 2) #[.slice a9 A.length c9]).setRow (w.heap.size + 3) #[.int .i64 C.a, .int .i64 C.s, .int .i64 C.e, .int .i64 C.q, .int .i64 C.h, .int .i64 C.t, .int .i64 C.u, .int .i64 C.l, .int .i64 C.m]) (.slice a9 A.length c9) A ∧ Below w.heap.size w ((wn.drew.setRow (w.heap.size + 2) #[.slice a9 A.length c9]).setRow (w.heap.size + 3) #[.int .i64 C.a, .int .i64 C.s, .int .i64 C.e, .int .i64 C.q, .int .i64 C.h, .int .i64 C.t, .int .i64 C.u, .int .i64 C.l, .int .i64 C.m])) := ⟨(setRow_other _ _ _ _ (by omega)).trans (setRow_heap _ _ _ _ _ _ Fd.res), setRow_heap _ _ _ _ _ _ ((setRow_other _ _ _ _ (by omega)).trans Fd.out), OwnC.base ((Od.setRow (by omega) _).setRow (by omega) _) (by omega), below_setRow (below_setRow Fd.below (by omega) _) (by omega) _⟩
      clear Fd BAd BCd Od
      go_wp2
      refine bodyPost_ret (res_ccu rfl _ _ (w.heap.size + 2) (w.heap.size + 3) 39 25 #[.slice a9 A.length c9] #[.int .i64 C.a, .int .i64 C.s, .int .i64 C.e, .int .i64 C.q, .int .i64 C.h, .int .i64 C.t, .int .i64 C.u, .int .i64 C.l, .int .i64 C.m] (0, 0) (0, 0) _ _ rfl rfl HE.out.1 HE.out.2.1 Try.underlying39 rfl arenaSize Try.underlying25 rfl chanSize) rfl ?_
      exact ⟨_, rfl, HE.out.2.2.1, HE.out.2.2.2⟩
end Go.Proofs.Ytnjihmailppjkaa
