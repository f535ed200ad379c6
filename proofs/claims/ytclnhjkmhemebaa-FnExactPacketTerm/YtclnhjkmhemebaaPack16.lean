/- The contract of chapter 16's PacketTerm, the specification's, and what it makes in plain words. -/
import Derived.Test.YtclnhjkmhemebaaArenaD
import Derived.Test.YtclnhjkmhemebaaKeptS
import Derived.Test.YtclnhjkmhemebaaListLit
import Derived.Test.YtclnhjkmhemebaaRegionC
import Derived.Test.YtclnhjkmhemebaaSpec16
import Derived.WalkKit
import Derived.WalkLawsBesides
import Derived.WalkSpells
import Derived.Laws.Rows
namespace Go.Proofs.Ytclnhjkmhemebaa
open Go.RowKit
set_option linter.unusedVariables false
set_option linter.unusedSimpArgs false
/-- A packet's term, made step by step: a packet is four whole numbers, as a node is. -/
def pkS (p : Nd) : Int := p.k + p.n + p.a + p.b
def pkA1 (ns : List Nd) : List Nd := putA ns ⟨1, 90, 0, 0⟩
def pkA2 (ns : List Nd) (p : Nd) : List Nd := putA (pkA1 ns) ⟨1, p.k, 0, 0⟩
def pkA3 (ns : List Nd) (p : Nd) : List Nd := putA (pkA2 ns p) ⟨1, p.n, 0, 0⟩
def pkA4 (ns : List Nd) (p : Nd) : List Nd := putA (pkA3 ns p) ⟨1, p.a, 0, 0⟩
def pkA5 (ns : List Nd) (p : Nd) : List Nd := putA (pkA4 ns p) ⟨1, p.b, 0, 0⟩
def pkA6 (ns : List Nd) (p : Nd) : List Nd := putA (pkA5 ns p) ⟨1, pkS p, 0, 0⟩
def pkX (ns : List Nd) (p : Nd) : List Int := [putK ns ⟨1, 90, 0, 0⟩, putK (pkA1 ns) ⟨1, p.k, 0, 0⟩, putK (pkA2 ns p) ⟨1, p.n, 0, 0⟩, putK (pkA3 ns p) ⟨1, p.a, 0, 0⟩, putK (pkA4 ns p) ⟨1, p.b, 0, 0⟩, putK (pkA5 ns p) ⟨1, pkS p, 0, 0⟩]
def pkA (ns : List Nd) (p : Nd) : List Nd := if pkOk p = true then (listF (pkX ns p) (pkA6 ns p)).1 else ns
def pkK (ns : List Nd) (p : Nd) : Int := if pkOk p = true then (listF (pkX ns p) (pkA6 ns p)).2 else -1
theorem pkA6_le {ns : List Nd} {p : Nd} (h : ns.length ≤ 1048576) : (pkA6 ns p).length ≤ 1048576 := putA_le2 (putA_le2 (putA_le2 (putA_le2 (putA_le2 (putA_le2 h)))))
theorem pkA_le {ns : List Nd} {p : Nd} (h : ns.length ≤ 1048576) : (pkA ns p).length ≤ 1048576 := by
  unfold pkA; split
  · exact listF_le _ (pkA6_le h)
  · exact h
set_option maxHeartbeats 6400000 in
set_option maxRecDepth 20000 in
theorem specPackD_any (D : Nat → Prop) (g : Nat) (ns : List Nd) (p : Nd) (w : World) (hl : ns.length ≤ 1048576) (h : ArD D w g ns) (hB : ∀ k, D k → k < w.heap.size) :
    Calls Try.prog 97 #[.pointer (some ⟨g, 0, none⟩), .agg #[.int .i64 p.k, .int .i64 p.n, .int .i64 p.a, .int .i64 p.b]] w fun e w' => e = .returned (.int .i64 (pkK ns p)) ∧ ArD D w' g (pkA ns p) ∧ Safe D w w' := by
  have hbA : Below w.heap.size w (w.alloc (.cells #[.int .i64 p.k, .int .i64 p.n, .int .i64 p.a, .int .i64 p.b] 52)) := (Below.refl _ _).alloc (Nat.le_refl _) _
  have hx := heap_alloc_new w (.cells #[.int .i64 p.k, .int .i64 p.n, .int .i64 p.a, .int .i64 p.b] 52)
  obtain ⟨D', HD'⟩ : ∃ D' : Nat → Prop, Hid (D' = fun k => D k ∨ k = w.heap.size) := ⟨_, rfl⟩
  have hA := h.wide (Nat.le_refl _) _ hbA
  rw [← HD'.out] at hA
  have HBO : Hid (∀ k, D' k → k < (w.alloc (.cells #[.int .i64 p.k, .int .i64 p.n, .int .i64 p.a, .int .i64 p.b] 52)).heap.size) := fun k hk => by
    rw [HD'.out] at hk
    rcases hk with hk | hk
    · have := hB k hk; simp; omega
    · subst hk; simp
  have H0 : Hid (ArD D' (w.alloc (.cells #[.int .i64 p.k, .int .i64 p.n, .int .i64 p.a, .int .i64 p.b] 52)) g ns ∧ Safe D' (w.alloc (.cells #[.int .i64 p.k, .int .i64 p.n, .int .i64 p.a, .int .i64 p.b] 52)) (w.alloc (.cells #[.int .i64 p.k, .int .i64 p.n, .int .i64 p.a, .int .i64 p.b] 52))) := ⟨hA, Safe.refl _ _⟩
  have HBX : Hid (∀ wz, Safe D' (w.alloc (.cells #[.int .i64 p.k, .int .i64 p.n, .int .i64 p.a, .int .i64 p.b] 52)) wz → wz.heap[w.heap.size]? = some (.cells #[.int .i64 p.k, .int .i64 p.n, .int .i64 p.a, .int .i64 p.b] 52 (0, 0))) := fun wz hs => (hs.block w.heap.size (by rw [HD'.out]; exact .inr rfl)).trans hx
  have HFIN : Hid (∀ wz A, ArD D' wz g A → Safe D' (w.alloc (.cells #[.int .i64 p.k, .int .i64 p.n, .int .i64 p.a, .int .i64 p.b] 52)) wz → ArD D wz g A ∧ Safe D w wz) := fun wz A h1 h2 => ⟨h1.narrow (fun k hk => by rw [HD'.out]; exact .inl hk), (Safe.of_below hbA hB).trans (h2.mono (fun k hk => by rw [HD'.out]; exact .inl hk))⟩
  obtain ⟨dP, hdP⟩ : ∃ d, pkOk p = d := ⟨_, rfl⟩
  have HPK : Hid _ := specPkOk_any p (w.alloc (.cells #[.int .i64 p.k, .int .i64 p.n, .int .i64 p.a, .int .i64 p.b] 52))
  rw [hdP] at HPK
  have q0 : (w.alloc (.cells #[.int .i64 p.k, .int .i64 p.n, .int .i64 p.a, .int .i64 p.b] 52)).cell? ⟨w.heap.size, 0, none⟩ = some (.int .i64 p.k) := (cell_of_row _ _ 0 _ _ _ hx).trans rfl
  have q1 : (w.alloc (.cells #[.int .i64 p.k, .int .i64 p.n, .int .i64 p.a, .int .i64 p.b] 52)).cell? ⟨w.heap.size, 1, none⟩ = some (.int .i64 p.n) := (cell_of_row _ _ 1 _ _ _ hx).trans rfl
  have q2 : (w.alloc (.cells #[.int .i64 p.k, .int .i64 p.n, .int .i64 p.a, .int .i64 p.b] 52)).cell? ⟨w.heap.size, 2, none⟩ = some (.int .i64 p.a) := (cell_of_row _ _ 2 _ _ _ hx).trans rfl
  have q3 : (w.alloc (.cells #[.int .i64 p.k, .int .i64 p.n, .int .i64 p.a, .int .i64 p.b] 52)).cell? ⟨w.heap.size, 3, none⟩ = some (.int .i64 p.b) := (cell_of_row _ _ 3 _ _ _ hx).trans rfl
  clear h hB hbA hx hA HD'
  go_enter Try.func97, Try.ntmps97
  go_wp2_with fail
  generalize w.alloc (.cells #[.int .i64 p.k, .int .i64 p.n, .int .i64 p.a, .int .i64 p.b] 52) = w0 at H0 HBO HBX HFIN HPK q0 q1 q2 q3 ⊢
  refine Calls.mono HPK.out ?_
  rintro e w1 ⟨rfl, hb1⟩
  have H1 : Hid (ArD D' w1 g ns ∧ Safe D' w0 w1) := ⟨H0.out.1.later hb1, Safe.of_below hb1 HBO.out⟩
  clear hb1 HPK H0 q0 q1 q2 q3
  cases dP with
  | false =>
    have HK : Hid (pkK ns p = -1 ∧ pkA ns p = ns) := by
      constructor
      · unfold pkK; rw [if_neg (by rw [hdP]; simp)]
      · unfold pkA; rw [if_neg (by rw [hdP]; simp)]
    have HE : Hid _ := HFIN.out w1 ns H1.out.1 H1.out.2
    clear H1
    go_wp2
    go_ret
    exact ⟨by rw [HK.out.1]; rfl, by rw [HK.out.2]; exact HE.out.1, HE.out.2⟩
  | true =>
    have HK : Hid (pkK ns p = (listF (pkX ns p) (pkA6 ns p)).2 ∧ pkA ns p = (listF (pkX ns p) (pkA6 ns p)).1) := by
      constructor
      · unfold pkK; rw [if_pos hdP]
      · unfold pkA; rw [if_pos hdP]
    have hbd : (0 ≤ p.k ∧ p.k ≤ 255) ∧ (0 ≤ p.n ∧ p.n ≤ 255) ∧ (1 ≤ p.a ∧ p.a ≤ 9) ∧ (0 ≤ p.b ∧ p.b ≤ 999) := by unfold pkOk inB at hdP; simp at hdP; omega
    have hw1 : IntKind.i64.wrap (p.k + p.n) = p.k + p.n := by simp [IntKind.wrap, IntKind.bits, IntKind.signed]; omega
    have hw2 : IntKind.i64.wrap (p.k + p.n + p.a) = p.k + p.n + p.a := by simp [IntKind.wrap, IntKind.bits, IntKind.signed]; omega
    have hw3 : IntKind.i64.wrap (p.k + p.n + p.a + p.b) = pkS p := by simp [IntKind.wrap, IntKind.bits, IntKind.signed, pkS]; omega
    clear hdP hbd
    go_wp2_with fail
    obtain ⟨Ws, HWS⟩ : ∃ Ws : List (Act → World → Prop), Ws = [fun _ wz => ArD D' wz g (ns) ∧ Safe D' w0 wz, fun _ wz => ArD D' wz g (pkA1 ns) ∧ Safe D' w0 wz, fun _ wz => ArD D' wz g (pkA2 ns p) ∧ Safe D' w0 wz, fun _ wz => ArD D' wz g (pkA3 ns p) ∧ Safe D' w0 wz, fun _ wz => ArD D' wz g (pkA4 ns p) ∧ Safe D' w0 wz, fun _ wz => ArD D' wz g (pkA5 ns p) ∧ Safe D' w0 wz, fun _ wz => ArD D' wz g (pkA6 ns p) ∧ Safe D' w0 wz, fun a wz => ∃ w6, ArD D' w6 g (pkA6 ns p) ∧ Safe D' w0 w6 ∧ wz = w6.alloc (.cells ((pkX ns p).map (Value.int .i64)).toArray 3) ∧ a.tmps.getD 40 undef = .slice (some ⟨w6.heap.size, 0, none⟩) 6 6, fun _ wz => ArD D' wz g (listF (pkX ns p) (pkA6 ns p)).1 ∧ Safe D' w0 wz] := ⟨_, rfl⟩
    have HCELL : Hid (∀ q ∈ Ws, ∀ a wz, q a wz → wz.cell? ⟨w.heap.size, 0, none⟩ = some (.int .i64 p.k) ∧ wz.cell? ⟨w.heap.size, 1, none⟩ = some (.int .i64 p.n) ∧ wz.cell? ⟨w.heap.size, 2, none⟩ = some (.int .i64 p.a) ∧ wz.cell? ⟨w.heap.size, 3, none⟩ = some (.int .i64 p.b)) := fun q hq a wz h => by
      have key : ∀ wy : World, wy.heap[w.heap.size]? = some (.cells #[.int .i64 p.k, .int .i64 p.n, .int .i64 p.a, .int .i64 p.b] 52 (0, 0)) → wy.cell? ⟨w.heap.size, 0, none⟩ = some (.int .i64 p.k) ∧ wy.cell? ⟨w.heap.size, 1, none⟩ = some (.int .i64 p.n) ∧ wy.cell? ⟨w.heap.size, 2, none⟩ = some (.int .i64 p.a) ∧ wy.cell? ⟨w.heap.size, 3, none⟩ = some (.int .i64 p.b) := fun wy hx => ⟨(cell_of_row _ _ 0 _ _ _ hx).trans rfl, (cell_of_row _ _ 1 _ _ _ hx).trans rfl, (cell_of_row _ _ 2 _ _ _ hx).trans rfl, (cell_of_row _ _ 3 _ _ _ hx).trans rfl⟩
      rw [HWS] at hq
      simp only [List.mem_cons, List.not_mem_nil, or_false] at hq
      rcases hq with rfl | rfl | rfl | rfl | rfl | rfl | rfl | rfl | rfl
      all_goals first
        | exact key _ (HBX.out _ h.2)
        | (obtain ⟨w6, h1, h2, rfl, -⟩ := h; have h3 := HBX.out _ h2; exact key _ ((heap_alloc_old _ _ (Array.getElem?_eq_some_iff.1 h3).1).trans h3))
    have HSTB : Hid (∀ (d : Nat) (v : Value) (a : Act) (wz : World), d ≠ 40 → ∀ q ∈ Ws, q a wz → q (a.put (some d) v) wz) := fun d v a wz hd q hq h => by
      rw [HWS] at hq
      simp only [List.mem_cons, List.not_mem_nil, or_false] at hq
      rcases hq with rfl | rfl | rfl | rfl | rfl | rfl | rfl | rfl | rfl
      all_goals first
        | exact h
        | (obtain ⟨w6, h1, h2, h3, h4⟩ := h; exact ⟨w6, h1, h2, h3, by rw [put_get a (some d) v 40 (by simpa using hd)]; exact h4⟩)
    subst HWS
    refine wp_region_stagedL (I := Stg [fun _ wz => ArD D' wz g (ns) ∧ Safe D' w0 wz, fun _ wz => ArD D' wz g (pkA1 ns) ∧ Safe D' w0 wz, fun _ wz => ArD D' wz g (pkA2 ns p) ∧ Safe D' w0 wz, fun _ wz => ArD D' wz g (pkA3 ns p) ∧ Safe D' w0 wz, fun _ wz => ArD D' wz g (pkA4 ns p) ∧ Safe D' w0 wz, fun _ wz => ArD D' wz g (pkA5 ns p) ∧ Safe D' w0 wz, fun _ wz => ArD D' wz g (pkA6 ns p) ∧ Safe D' w0 wz, fun a wz => ∃ w6, ArD D' w6 g (pkA6 ns p) ∧ Safe D' w0 w6 ∧ wz = w6.alloc (.cells ((pkX ns p).map (Value.int .i64)).toArray 3) ∧ a.tmps.getD 40 undef = .slice (some ⟨w6.heap.size, 0, none⟩) 6 6, fun _ wz => ArD D' wz g (listF (pkX ns p) (pkA6 ns p)).1 ∧ Safe D' w0 wz] [2, 6, 10, 14, 18, 31, 32, 33])
      (fs := #[⟨[8], fun vs _ => vs = [.pointer (some ⟨g, 0, none⟩)]⟩, ⟨[9], fun vs _ => vs = [.pointer (some ⟨g, 0, none⟩)]⟩, ⟨[10], fun vs _ => vs = [.int .i64 (putK (ns) ⟨1, 90, 0, 0⟩)]⟩, ⟨[11], fun vs _ => vs = [.pointer (some ⟨g, 0, none⟩)]⟩, ⟨[12], fun vs _ => vs = [.pointer (some ⟨w.heap.size, 0, none⟩)]⟩, ⟨[13], fun vs _ => vs = [.int .i64 p.k]⟩, ⟨[14], fun vs _ => vs = [.int .i64 (putK (pkA1 ns) ⟨1, p.k, 0, 0⟩)]⟩, ⟨[15], fun vs _ => vs = [.pointer (some ⟨g, 0, none⟩)]⟩, ⟨[16], fun vs _ => vs = [.pointer (some ⟨w.heap.size, 1, none⟩)]⟩, ⟨[17], fun vs _ => vs = [.int .i64 p.n]⟩, ⟨[18], fun vs _ => vs = [.int .i64 (putK (pkA2 ns p) ⟨1, p.n, 0, 0⟩)]⟩, ⟨[19], fun vs _ => vs = [.pointer (some ⟨g, 0, none⟩)]⟩, ⟨[20], fun vs _ => vs = [.pointer (some ⟨w.heap.size, 2, none⟩)]⟩, ⟨[21], fun vs _ => vs = [.int .i64 p.a]⟩, ⟨[22], fun vs _ => vs = [.int .i64 (putK (pkA3 ns p) ⟨1, p.a, 0, 0⟩)]⟩, ⟨[23], fun vs _ => vs = [.pointer (some ⟨g, 0, none⟩)]⟩, ⟨[24], fun vs _ => vs = [.pointer (some ⟨w.heap.size, 3, none⟩)]⟩, ⟨[25], fun vs _ => vs = [.int .i64 p.b]⟩, ⟨[26], fun vs _ => vs = [.int .i64 (putK (pkA4 ns p) ⟨1, p.b, 0, 0⟩)]⟩, ⟨[27], fun vs _ => vs = [.pointer (some ⟨g, 0, none⟩)]⟩, ⟨[28], fun vs _ => vs = [.pointer (some ⟨w.heap.size, 0, none⟩)]⟩, ⟨[29], fun vs _ => vs = [.int .i64 p.k]⟩, ⟨[30], fun vs _ => vs = [.pointer (some ⟨w.heap.size, 1, none⟩)]⟩, ⟨[31], fun vs _ => vs = [.int .i64 p.n]⟩, ⟨[32], fun vs _ => vs = [.int .i64 (p.k + p.n)]⟩, ⟨[33], fun vs _ => vs = [.pointer (some ⟨w.heap.size, 2, none⟩)]⟩, ⟨[34], fun vs _ => vs = [.int .i64 p.a]⟩, ⟨[35], fun vs _ => vs = [.int .i64 (p.k + p.n + p.a)]⟩, ⟨[36], fun vs _ => vs = [.pointer (some ⟨w.heap.size, 3, none⟩)]⟩, ⟨[37], fun vs _ => vs = [.int .i64 p.b]⟩, ⟨[38], fun vs _ => vs = [.int .i64 (pkS p)]⟩, ⟨[39], fun vs _ => vs = [.int .i64 (putK (pkA5 ns p) ⟨1, (pkS p), 0, 0⟩)]⟩, ⟨[40], fun _ _ => True⟩, ⟨[41], fun vs _ => vs = [.int .i64 (listF (pkX ns p) (pkA6 ns p)).2]⟩, ⟨[4], fun vs _ => vs = [.int .i64 (listF (pkX ns p) (pkA6 ns p)).2]⟩])
      (by kernel_rfl) 42 rfl (by kernel_rfl) ?stab ?start ?exec ?fin
    case stab =>
      intro k f hf
      have hk : k < 35 := (Array.getElem?_eq_some_iff.1 hf).1
      rcases (show k = 0 ∨ k = 1 ∨ k = 2 ∨ k = 3 ∨ k = 4 ∨ k = 5 ∨ k = 6 ∨ k = 7 ∨ k = 8 ∨ k = 9 ∨ k = 10 ∨ k = 11 ∨ k = 12 ∨ k = 13 ∨ k = 14 ∨ k = 15 ∨ k = 16 ∨ k = 17 ∨ k = 18 ∨ k = 19 ∨ k = 20 ∨ k = 21 ∨ k = 22 ∨ k = 23 ∨ k = 24 ∨ k = 25 ∨ k = 26 ∨ k = 27 ∨ k = 28 ∨ k = 29 ∨ k = 30 ∨ k = 31 ∨ k = 32 ∨ k = 33 ∨ k = 34 by omega) with rfl | rfl | rfl | rfl | rfl | rfl | rfl | rfl | rfl | rfl | rfl | rfl | rfl | rfl | rfl | rfl | rfl | rfl | rfl | rfl | rfl | rfl | rfl | rfl | rfl | rfl | rfl | rfl | rfl | rfl | rfl | rfl | rfl | rfl | rfl
      all_goals
        simp only [List.getElem?_toArray, List.getElem?_cons_succ, List.getElem?_cons_zero, Option.some.injEq] at hf
        subst hf
        exact fun _ _ _ h => h
    case start => exact Stg.mk' cnt_none rfl (⟨H1.out.1.later (Below.refl _ _).drew, H1.out.2.trans (Safe.of_below (Below.refl _ _).drew (H1.out.2.old HBO.out))⟩)
    case exec =>
      intro j o f hio hf ls act wq hls hsz hI hun hcl hold hpre
      have hj : j < 35 := (Array.getElem?_eq_some_iff.1 hio).1
      rcases (show j = 0 ∨ j = 1 ∨ j = 2 ∨ j = 3 ∨ j = 4 ∨ j = 5 ∨ j = 6 ∨ j = 7 ∨ j = 8 ∨ j = 9 ∨ j = 10 ∨ j = 11 ∨ j = 12 ∨ j = 13 ∨ j = 14 ∨ j = 15 ∨ j = 16 ∨ j = 17 ∨ j = 18 ∨ j = 19 ∨ j = 20 ∨ j = 21 ∨ j = 22 ∨ j = 23 ∨ j = 24 ∨ j = 25 ∨ j = 26 ∨ j = 27 ∨ j = 28 ∨ j = 29 ∨ j = 30 ∨ j = 31 ∨ j = 32 ∨ j = 33 ∨ j = 34 by omega) with rfl | rfl | rfl | rfl | rfl | rfl | rfl | rfl | rfl | rfl | rfl | rfl | rfl | rfl | rfl | rfl | rfl | rfl | rfl | rfl | rfl | rfl | rfl | rfl | rfl | rfl | rfl | rfl | rfl | rfl | rfl | rfl | rfl | rfl | rfl
      all_goals
        simp only [List.getElem?_toArray, List.getElem?_cons_succ, List.getElem?_cons_zero, Option.some.injEq] at hio hf
        subst hio hf
        refine ⟨rfl, ?_⟩
      · have g0 : act.tmps.getD 0 undef = .pointer (some ⟨g, 0, none⟩) := hold 0 (free_spec (by kernel_rfl))
        refine exec_same (v := .pointer (some ⟨g, 0, none⟩)) ?_ ⟨_, rfl, hI.read (by decide) (HSTB.out 8 _ _ _ (by decide)), at_one (by omega) rfl⟩
        simp [go_sem, Act.eval, g0]
      · have g0 : act.tmps.getD 0 undef = .pointer (some ⟨g, 0, none⟩) := hold 0 (free_spec (by kernel_rfl))
        refine exec_same (v := .pointer (some ⟨g, 0, none⟩)) ?_ ⟨_, rfl, hI.read (by decide) (HSTB.out 9 _ _ _ (by decide)), at_one (by omega) rfl⟩
        simp [go_sem, Act.eval, g0]
      · have g9 : act.tmps.getD 9 undef = .pointer (some ⟨g, 0, none⟩) := by have := of_one ((hpre ⟨1, .data⟩ (by simp) rfl).2 _ rfl); simpa using this
        have hcn := cnt_at (n := 2) hcl [2, 6, 10, 14, 18, 31, 32, 33] 0 2 (by kernel_rfl) (by decide) rfl hun (by rw [hls]; simp) (fun i d e hd => by cases e)
        have hW := hI.here hcn.1 rfl
        refine exec_call (f := 123) (args := #[.pointer (some ⟨g, 0, none⟩), .int .i64 90]) ?_ ((specAtomD_any D' g (ns) 90 wq (hl) hW.1 (hW.2.old HBO.out)).mono ?_)
        · simp [go_sem, Act.eval, g9]
        · rintro e w' ⟨rfl, ha, hb⟩
          exact ⟨_, rfl, _, rfl, Stg.mk' hcn.2 rfl ⟨ha, hW.2.trans hb⟩, at_one (by omega) rfl⟩
      · have g0 : act.tmps.getD 0 undef = .pointer (some ⟨g, 0, none⟩) := hold 0 (free_spec (by kernel_rfl))
        refine exec_same (v := .pointer (some ⟨g, 0, none⟩)) ?_ ⟨_, rfl, hI.read (by decide) (HSTB.out 11 _ _ _ (by decide)), at_one (by omega) rfl⟩
        simp [go_sem, Act.eval, g0]
      · have g3 : act.tmps.getD 3 undef = .pointer (some ⟨w.heap.size, 0, none⟩) := hold 3 (free_spec (by kernel_rfl))
        refine exec_same (v := .pointer (some ⟨w.heap.size, 0, none⟩)) ?_ ⟨_, rfl, hI.read (by decide) (HSTB.out 12 _ _ _ (by decide)), at_one (by omega) rfl⟩
        simp [go_sem, Act.eval, g3]
      · have g12 : act.tmps.getD 12 undef = .pointer (some ⟨w.heap.size, 0, none⟩) := by have := of_one ((hpre ⟨4, .data⟩ (by simp) rfl).2 _ rfl); simpa using this
        obtain ⟨q0, q1, q2, q3⟩ := hI.every HCELL.out
        refine exec_same (v := .int .i64 p.k) ?_ ⟨_, rfl, hI.read (by decide) (HSTB.out 13 _ _ _ (by decide)), at_one (by omega) rfl⟩
        simp [go_sem, Act.eval, g12, q0]
      · have g11 : act.tmps.getD 11 undef = .pointer (some ⟨g, 0, none⟩) := by have := of_one ((hpre ⟨3, .data⟩ (by simp) rfl).2 _ rfl); simpa using this
        have g13 : act.tmps.getD 13 undef = .int .i64 p.k := by have := of_one ((hpre ⟨5, .data⟩ (by simp) rfl).2 _ rfl); simpa using this
        have hcn := cnt_at (n := 2) hcl [2, 6, 10, 14, 18, 31, 32, 33] 1 6 (by kernel_rfl) (by decide) rfl hun (by rw [hls]; simp) (fun i d e hd => by (obtain rfl : i = 0 := (by omega)); (simp only [List.getElem?_cons_succ, List.getElem?_cons_zero, Option.some.injEq] at hd); (subst hd); exact pre_done (fun e he hb => (hpre e he hb).1) (by kernel_rfl))
        have hW := hI.here hcn.1 rfl
        refine exec_call (f := 123) (args := #[.pointer (some ⟨g, 0, none⟩), .int .i64 p.k]) ?_ ((specAtomD_any D' g (pkA1 ns) p.k wq (putA_le2 (hl)) hW.1 (hW.2.old HBO.out)).mono ?_)
        · simp [go_sem, Act.eval, g11, g13]
        · rintro e w' ⟨rfl, ha, hb⟩
          exact ⟨_, rfl, _, rfl, Stg.mk' hcn.2 rfl ⟨ha, hW.2.trans hb⟩, at_one (by omega) rfl⟩
      · have g0 : act.tmps.getD 0 undef = .pointer (some ⟨g, 0, none⟩) := hold 0 (free_spec (by kernel_rfl))
        refine exec_same (v := .pointer (some ⟨g, 0, none⟩)) ?_ ⟨_, rfl, hI.read (by decide) (HSTB.out 15 _ _ _ (by decide)), at_one (by omega) rfl⟩
        simp [go_sem, Act.eval, g0]
      · have g3 : act.tmps.getD 3 undef = .pointer (some ⟨w.heap.size, 0, none⟩) := hold 3 (free_spec (by kernel_rfl))
        refine exec_same (v := .pointer (some ⟨w.heap.size, 1, none⟩)) ?_ ⟨_, rfl, hI.read (by decide) (HSTB.out 16 _ _ _ (by decide)), at_one (by omega) rfl⟩
        simp [go_sem, Act.eval, g3]
      · have g16 : act.tmps.getD 16 undef = .pointer (some ⟨w.heap.size, 1, none⟩) := by have := of_one ((hpre ⟨8, .data⟩ (by simp) rfl).2 _ rfl); simpa using this
        obtain ⟨q0, q1, q2, q3⟩ := hI.every HCELL.out
        refine exec_same (v := .int .i64 p.n) ?_ ⟨_, rfl, hI.read (by decide) (HSTB.out 17 _ _ _ (by decide)), at_one (by omega) rfl⟩
        simp [go_sem, Act.eval, g16, q1]
      · have g15 : act.tmps.getD 15 undef = .pointer (some ⟨g, 0, none⟩) := by have := of_one ((hpre ⟨7, .data⟩ (by simp) rfl).2 _ rfl); simpa using this
        have g17 : act.tmps.getD 17 undef = .int .i64 p.n := by have := of_one ((hpre ⟨9, .data⟩ (by simp) rfl).2 _ rfl); simpa using this
        have hcn := cnt_at (n := 2) hcl [2, 6, 10, 14, 18, 31, 32, 33] 2 10 (by kernel_rfl) (by decide) rfl hun (by rw [hls]; simp) (fun i d e hd => by (obtain rfl : i = 1 := (by omega)); (simp only [List.getElem?_cons_succ, List.getElem?_cons_zero, Option.some.injEq] at hd); (subst hd); exact pre_done (fun e he hb => (hpre e he hb).1) (by kernel_rfl))
        have hW := hI.here hcn.1 rfl
        refine exec_call (f := 123) (args := #[.pointer (some ⟨g, 0, none⟩), .int .i64 p.n]) ?_ ((specAtomD_any D' g (pkA2 ns p) p.n wq (putA_le2 (putA_le2 (hl))) hW.1 (hW.2.old HBO.out)).mono ?_)
        · simp [go_sem, Act.eval, g15, g17]
        · rintro e w' ⟨rfl, ha, hb⟩
          exact ⟨_, rfl, _, rfl, Stg.mk' hcn.2 rfl ⟨ha, hW.2.trans hb⟩, at_one (by omega) rfl⟩
      · have g0 : act.tmps.getD 0 undef = .pointer (some ⟨g, 0, none⟩) := hold 0 (free_spec (by kernel_rfl))
        refine exec_same (v := .pointer (some ⟨g, 0, none⟩)) ?_ ⟨_, rfl, hI.read (by decide) (HSTB.out 19 _ _ _ (by decide)), at_one (by omega) rfl⟩
        simp [go_sem, Act.eval, g0]
      · have g3 : act.tmps.getD 3 undef = .pointer (some ⟨w.heap.size, 0, none⟩) := hold 3 (free_spec (by kernel_rfl))
        refine exec_same (v := .pointer (some ⟨w.heap.size, 2, none⟩)) ?_ ⟨_, rfl, hI.read (by decide) (HSTB.out 20 _ _ _ (by decide)), at_one (by omega) rfl⟩
        simp [go_sem, Act.eval, g3]
      · have g20 : act.tmps.getD 20 undef = .pointer (some ⟨w.heap.size, 2, none⟩) := by have := of_one ((hpre ⟨12, .data⟩ (by simp) rfl).2 _ rfl); simpa using this
        obtain ⟨q0, q1, q2, q3⟩ := hI.every HCELL.out
        refine exec_same (v := .int .i64 p.a) ?_ ⟨_, rfl, hI.read (by decide) (HSTB.out 21 _ _ _ (by decide)), at_one (by omega) rfl⟩
        simp [go_sem, Act.eval, g20, q2]
      · have g19 : act.tmps.getD 19 undef = .pointer (some ⟨g, 0, none⟩) := by have := of_one ((hpre ⟨11, .data⟩ (by simp) rfl).2 _ rfl); simpa using this
        have g21 : act.tmps.getD 21 undef = .int .i64 p.a := by have := of_one ((hpre ⟨13, .data⟩ (by simp) rfl).2 _ rfl); simpa using this
        have hcn := cnt_at (n := 2) hcl [2, 6, 10, 14, 18, 31, 32, 33] 3 14 (by kernel_rfl) (by decide) rfl hun (by rw [hls]; simp) (fun i d e hd => by (obtain rfl : i = 2 := (by omega)); (simp only [List.getElem?_cons_succ, List.getElem?_cons_zero, Option.some.injEq] at hd); (subst hd); exact pre_done (fun e he hb => (hpre e he hb).1) (by kernel_rfl))
        have hW := hI.here hcn.1 rfl
        refine exec_call (f := 123) (args := #[.pointer (some ⟨g, 0, none⟩), .int .i64 p.a]) ?_ ((specAtomD_any D' g (pkA3 ns p) p.a wq (putA_le2 (putA_le2 (putA_le2 (hl)))) hW.1 (hW.2.old HBO.out)).mono ?_)
        · simp [go_sem, Act.eval, g19, g21]
        · rintro e w' ⟨rfl, ha, hb⟩
          exact ⟨_, rfl, _, rfl, Stg.mk' hcn.2 rfl ⟨ha, hW.2.trans hb⟩, at_one (by omega) rfl⟩
      · have g0 : act.tmps.getD 0 undef = .pointer (some ⟨g, 0, none⟩) := hold 0 (free_spec (by kernel_rfl))
        refine exec_same (v := .pointer (some ⟨g, 0, none⟩)) ?_ ⟨_, rfl, hI.read (by decide) (HSTB.out 23 _ _ _ (by decide)), at_one (by omega) rfl⟩
        simp [go_sem, Act.eval, g0]
      · have g3 : act.tmps.getD 3 undef = .pointer (some ⟨w.heap.size, 0, none⟩) := hold 3 (free_spec (by kernel_rfl))
        refine exec_same (v := .pointer (some ⟨w.heap.size, 3, none⟩)) ?_ ⟨_, rfl, hI.read (by decide) (HSTB.out 24 _ _ _ (by decide)), at_one (by omega) rfl⟩
        simp [go_sem, Act.eval, g3]
      · have g24 : act.tmps.getD 24 undef = .pointer (some ⟨w.heap.size, 3, none⟩) := by have := of_one ((hpre ⟨16, .data⟩ (by simp) rfl).2 _ rfl); simpa using this
        obtain ⟨q0, q1, q2, q3⟩ := hI.every HCELL.out
        refine exec_same (v := .int .i64 p.b) ?_ ⟨_, rfl, hI.read (by decide) (HSTB.out 25 _ _ _ (by decide)), at_one (by omega) rfl⟩
        simp [go_sem, Act.eval, g24, q3]
      · have g23 : act.tmps.getD 23 undef = .pointer (some ⟨g, 0, none⟩) := by have := of_one ((hpre ⟨15, .data⟩ (by simp) rfl).2 _ rfl); simpa using this
        have g25 : act.tmps.getD 25 undef = .int .i64 p.b := by have := of_one ((hpre ⟨17, .data⟩ (by simp) rfl).2 _ rfl); simpa using this
        have hcn := cnt_at (n := 2) hcl [2, 6, 10, 14, 18, 31, 32, 33] 4 18 (by kernel_rfl) (by decide) rfl hun (by rw [hls]; simp) (fun i d e hd => by (obtain rfl : i = 3 := (by omega)); (simp only [List.getElem?_cons_succ, List.getElem?_cons_zero, Option.some.injEq] at hd); (subst hd); exact pre_done (fun e he hb => (hpre e he hb).1) (by kernel_rfl))
        have hW := hI.here hcn.1 rfl
        refine exec_call (f := 123) (args := #[.pointer (some ⟨g, 0, none⟩), .int .i64 p.b]) ?_ ((specAtomD_any D' g (pkA4 ns p) p.b wq (putA_le2 (putA_le2 (putA_le2 (putA_le2 (hl))))) hW.1 (hW.2.old HBO.out)).mono ?_)
        · simp [go_sem, Act.eval, g23, g25]
        · rintro e w' ⟨rfl, ha, hb⟩
          exact ⟨_, rfl, _, rfl, Stg.mk' hcn.2 rfl ⟨ha, hW.2.trans hb⟩, at_one (by omega) rfl⟩
      · have g0 : act.tmps.getD 0 undef = .pointer (some ⟨g, 0, none⟩) := hold 0 (free_spec (by kernel_rfl))
        refine exec_same (v := .pointer (some ⟨g, 0, none⟩)) ?_ ⟨_, rfl, hI.read (by decide) (HSTB.out 27 _ _ _ (by decide)), at_one (by omega) rfl⟩
        simp [go_sem, Act.eval, g0]
      · have g3 : act.tmps.getD 3 undef = .pointer (some ⟨w.heap.size, 0, none⟩) := hold 3 (free_spec (by kernel_rfl))
        refine exec_same (v := .pointer (some ⟨w.heap.size, 0, none⟩)) ?_ ⟨_, rfl, hI.read (by decide) (HSTB.out 28 _ _ _ (by decide)), at_one (by omega) rfl⟩
        simp [go_sem, Act.eval, g3]
      · have g28 : act.tmps.getD 28 undef = .pointer (some ⟨w.heap.size, 0, none⟩) := by have := of_one ((hpre ⟨20, .data⟩ (by simp) rfl).2 _ rfl); simpa using this
        obtain ⟨q0, q1, q2, q3⟩ := hI.every HCELL.out
        refine exec_same (v := .int .i64 p.k) ?_ ⟨_, rfl, hI.read (by decide) (HSTB.out 29 _ _ _ (by decide)), at_one (by omega) rfl⟩
        simp [go_sem, Act.eval, g28, q0]
      · have g3 : act.tmps.getD 3 undef = .pointer (some ⟨w.heap.size, 0, none⟩) := hold 3 (free_spec (by kernel_rfl))
        refine exec_same (v := .pointer (some ⟨w.heap.size, 1, none⟩)) ?_ ⟨_, rfl, hI.read (by decide) (HSTB.out 30 _ _ _ (by decide)), at_one (by omega) rfl⟩
        simp [go_sem, Act.eval, g3]
      · have g30 : act.tmps.getD 30 undef = .pointer (some ⟨w.heap.size, 1, none⟩) := by have := of_one ((hpre ⟨22, .data⟩ (by simp) rfl).2 _ rfl); simpa using this
        obtain ⟨q0, q1, q2, q3⟩ := hI.every HCELL.out
        refine exec_same (v := .int .i64 p.n) ?_ ⟨_, rfl, hI.read (by decide) (HSTB.out 31 _ _ _ (by decide)), at_one (by omega) rfl⟩
        simp [go_sem, Act.eval, g30, q1]
      · have g29 : act.tmps.getD 29 undef = .int .i64 p.k := by have := of_one ((hpre ⟨21, .data⟩ (by simp) rfl).2 _ rfl); simpa using this
        have g31 : act.tmps.getD 31 undef = .int .i64 p.n := by have := of_one ((hpre ⟨23, .data⟩ (by simp) rfl).2 _ rfl); simpa using this
        refine exec_same (v := .int .i64 (p.k + p.n)) ?_ ⟨_, rfl, hI.read (by decide) (HSTB.out 32 _ _ _ (by decide)), at_one (by omega) rfl⟩
        simp [go_sem, Act.eval, g29, g31, hw1]
      · have g3 : act.tmps.getD 3 undef = .pointer (some ⟨w.heap.size, 0, none⟩) := hold 3 (free_spec (by kernel_rfl))
        refine exec_same (v := .pointer (some ⟨w.heap.size, 2, none⟩)) ?_ ⟨_, rfl, hI.read (by decide) (HSTB.out 33 _ _ _ (by decide)), at_one (by omega) rfl⟩
        simp [go_sem, Act.eval, g3]
      · have g33 : act.tmps.getD 33 undef = .pointer (some ⟨w.heap.size, 2, none⟩) := by have := of_one ((hpre ⟨25, .data⟩ (by simp) rfl).2 _ rfl); simpa using this
        obtain ⟨q0, q1, q2, q3⟩ := hI.every HCELL.out
        refine exec_same (v := .int .i64 p.a) ?_ ⟨_, rfl, hI.read (by decide) (HSTB.out 34 _ _ _ (by decide)), at_one (by omega) rfl⟩
        simp [go_sem, Act.eval, g33, q2]
      · have g32 : act.tmps.getD 32 undef = .int .i64 (p.k + p.n) := by have := of_one ((hpre ⟨24, .data⟩ (by simp) rfl).2 _ rfl); simpa using this
        have g34 : act.tmps.getD 34 undef = .int .i64 p.a := by have := of_one ((hpre ⟨26, .data⟩ (by simp) rfl).2 _ rfl); simpa using this
        refine exec_same (v := .int .i64 (p.k + p.n + p.a)) ?_ ⟨_, rfl, hI.read (by decide) (HSTB.out 35 _ _ _ (by decide)), at_one (by omega) rfl⟩
        simp [go_sem, Act.eval, g32, g34, hw2]
      · have g3 : act.tmps.getD 3 undef = .pointer (some ⟨w.heap.size, 0, none⟩) := hold 3 (free_spec (by kernel_rfl))
        refine exec_same (v := .pointer (some ⟨w.heap.size, 3, none⟩)) ?_ ⟨_, rfl, hI.read (by decide) (HSTB.out 36 _ _ _ (by decide)), at_one (by omega) rfl⟩
        simp [go_sem, Act.eval, g3]
      · have g36 : act.tmps.getD 36 undef = .pointer (some ⟨w.heap.size, 3, none⟩) := by have := of_one ((hpre ⟨28, .data⟩ (by simp) rfl).2 _ rfl); simpa using this
        obtain ⟨q0, q1, q2, q3⟩ := hI.every HCELL.out
        refine exec_same (v := .int .i64 p.b) ?_ ⟨_, rfl, hI.read (by decide) (HSTB.out 37 _ _ _ (by decide)), at_one (by omega) rfl⟩
        simp [go_sem, Act.eval, g36, q3]
      · have g35 : act.tmps.getD 35 undef = .int .i64 (p.k + p.n + p.a) := by have := of_one ((hpre ⟨27, .data⟩ (by simp) rfl).2 _ rfl); simpa using this
        have g37 : act.tmps.getD 37 undef = .int .i64 p.b := by have := of_one ((hpre ⟨29, .data⟩ (by simp) rfl).2 _ rfl); simpa using this
        refine exec_same (v := .int .i64 (pkS p)) ?_ ⟨_, rfl, hI.read (by decide) (HSTB.out 38 _ _ _ (by decide)), at_one (by omega) rfl⟩
        simp [go_sem, Act.eval, g35, g37, hw3]
      · have g27 : act.tmps.getD 27 undef = .pointer (some ⟨g, 0, none⟩) := by have := of_one ((hpre ⟨19, .data⟩ (by simp) rfl).2 _ rfl); simpa using this
        have g38 : act.tmps.getD 38 undef = .int .i64 (pkS p) := by have := of_one ((hpre ⟨30, .data⟩ (by simp) rfl).2 _ rfl); simpa using this
        have hcn := cnt_at (n := 2) hcl [2, 6, 10, 14, 18, 31, 32, 33] 5 31 (by kernel_rfl) (by decide) rfl hun (by rw [hls]; simp) (fun i d e hd => by (obtain rfl : i = 4 := (by omega)); (simp only [List.getElem?_cons_succ, List.getElem?_cons_zero, Option.some.injEq] at hd); (subst hd); exact pre_done (fun e he hb => (hpre e he hb).1) (by kernel_rfl))
        have hW := hI.here hcn.1 rfl
        refine exec_call (f := 123) (args := #[.pointer (some ⟨g, 0, none⟩), .int .i64 (pkS p)]) ?_ ((specAtomD_any D' g (pkA5 ns p) (pkS p) wq (putA_le2 (putA_le2 (putA_le2 (putA_le2 (putA_le2 (hl)))))) hW.1 (hW.2.old HBO.out)).mono ?_)
        · simp [go_sem, Act.eval, g27, g38]
        · rintro e w' ⟨rfl, ha, hb⟩
          exact ⟨_, rfl, _, rfl, Stg.mk' hcn.2 rfl ⟨ha, hW.2.trans hb⟩, at_one (by omega) rfl⟩
      · have g10 : act.tmps.getD 10 undef = .int .i64 (putK (ns) ⟨1, 90, 0, 0⟩) := by have := of_one ((hpre ⟨2, .data⟩ (by simp) rfl).2 _ rfl); simpa using this
        have g14 : act.tmps.getD 14 undef = .int .i64 (putK (pkA1 ns) ⟨1, p.k, 0, 0⟩) := by have := of_one ((hpre ⟨6, .data⟩ (by simp) rfl).2 _ rfl); simpa using this
        have g18 : act.tmps.getD 18 undef = .int .i64 (putK (pkA2 ns p) ⟨1, p.n, 0, 0⟩) := by have := of_one ((hpre ⟨10, .data⟩ (by simp) rfl).2 _ rfl); simpa using this
        have g22 : act.tmps.getD 22 undef = .int .i64 (putK (pkA3 ns p) ⟨1, p.a, 0, 0⟩) := by have := of_one ((hpre ⟨14, .data⟩ (by simp) rfl).2 _ rfl); simpa using this
        have g26 : act.tmps.getD 26 undef = .int .i64 (putK (pkA4 ns p) ⟨1, p.b, 0, 0⟩) := by have := of_one ((hpre ⟨18, .data⟩ (by simp) rfl).2 _ rfl); simpa using this
        have g39 : act.tmps.getD 39 undef = .int .i64 (putK (pkA5 ns p) ⟨1, (pkS p), 0, 0⟩) := by have := of_one ((hpre ⟨31, .data⟩ (by simp) rfl).2 _ rfl); simpa using this
        have hcn := cnt_at (n := 2) hcl [2, 6, 10, 14, 18, 31, 32, 33] 6 32 (by kernel_rfl) (by decide) rfl hun (by rw [hls]; simp) (fun i d e hd => by (obtain rfl : i = 5 := (by omega)); (simp only [List.getElem?_cons_succ, List.getElem?_cons_zero, Option.some.injEq] at hd); (subst hd); exact pre_done (fun e he hb => (hpre e he hb).1) (by kernel_rfl))
        have hW := hI.here hcn.1 rfl
        refine exec_made (v := .slice (some ⟨wq.heap.size, 0, none⟩) 6 6) (w' := wq.alloc (.cells ((pkX ns p).map (Value.int .i64)).toArray 3)) ?_ ⟨_, rfl, Stg.mk' hcn.2 rfl ⟨wq, hW.1, hW.2, rfl, put_same _ _ _ (by omega)⟩, trivial⟩
        have g10' : act.tmps[10]?.getD undef = _ := (by simpa using g10)
        have g14' : act.tmps[14]?.getD undef = _ := (by simpa using g14)
        have g18' : act.tmps[18]?.getD undef = _ := (by simpa using g18)
        have g22' : act.tmps[22]?.getD undef = _ := (by simpa using g22)
        have g26' : act.tmps[26]?.getD undef = _ := (by simpa using g26)
        have g39' : act.tmps[39]?.getD undef = _ := (by simpa using g39)
        simp [go_sem, Act.eval, pkX, g10', g14', g18', g22', g26', g39']
      · have g8 : act.tmps.getD 8 undef = .pointer (some ⟨g, 0, none⟩) := by have := of_one ((hpre ⟨0, .data⟩ (by simp) rfl).2 _ rfl); simpa using this
        have hcn := cnt_at (n := 2) hcl [2, 6, 10, 14, 18, 31, 32, 33] 7 33 (by kernel_rfl) (by decide) rfl hun (by rw [hls]; simp) (fun i d e hd => by (obtain rfl : i = 6 := (by omega)); (simp only [List.getElem?_cons_succ, List.getElem?_cons_zero, Option.some.injEq] at hd); (subst hd); exact pre_done (fun e he hb => (hpre e he hb).1) (by kernel_rfl))
        have hW := hI.here hcn.1 rfl
        obtain ⟨w6, hA6, hS6, rfl, g40⟩ := hW
        refine exec_call (f := 122) (args := #[.pointer (some ⟨g, 0, none⟩), .slice (some ⟨w6.heap.size, 0, none⟩) 6 6]) ?_ ((listLit_any D' g (pkA6 ns p) (pkX ns p) w6 (pkA6_le hl) (by simp [pkX]) hA6 (hS6.old HBO.out)).mono ?_)
        · simp [go_sem, Act.eval, g8, g40]
        · rintro e w' ⟨rfl, ha, hb⟩
          exact ⟨_, rfl, _, rfl, Stg.mk' hcn.2 rfl ⟨ha, hS6.trans hb⟩, at_one (by omega) rfl⟩
      · have g41 : act.tmps.getD 41 undef = .int .i64 (listF (pkX ns p) (pkA6 ns p)).2 := by have := of_one ((hpre ⟨33, .data⟩ (by simp) rfl).2 _ rfl); simpa using this
        refine exec_same (v := .int .i64 (listF (pkX ns p) (pkA6 ns p)).2) ?_ ⟨_, rfl, hI.read (by decide) (HSTB.out 4 _ _ _ (by decide)), at_one (by omega) rfl⟩
        simp [go_sem, Act.eval, g41]
    case fin =>
      intro zs ls wE hzl hall hI hF
      have hE := hI.here (cnt_all (fun c hc => hall c (by simp only [List.mem_cons, List.not_mem_nil, or_false] at hc; simp; omega))) rfl
      have hz := of_one (hF 34 _ rfl)
      simp only [List.cons.injEq, and_true] at hz
      have HE : Hid _ := HFIN.out wE _ hE.1 hE.2
      have HZ : Hid _ := hz
      clear hF hI hE hz
      go_wp2
      refine bodyPost_ret (results_tmp rfl _ _ _) ((putAll_size _ _ _).2.trans rfl) ?_
      exact ⟨by rw [HK.out.1]; exact congrArg Ending.returned HZ.out, by rw [HK.out.2]; exact HE.out.1, HE.out.2⟩
end Go.Proofs.Ytclnhjkmhemebaa
