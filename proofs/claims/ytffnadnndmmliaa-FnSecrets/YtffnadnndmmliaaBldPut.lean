/- The program's arena in the making (chapter 3): put, where nothing new comes. -/
import Derived.Test.YtffnadnndmmliaaPlainRT2
import Derived.Test.YtffnadnndmmliaaPlacesW
import Derived.Test.YtffnadnndmmliaaImplR
import Derived.WalkKit
import Derived.WalkLawsBesides
import Derived.WalkSpells
import Derived.Laws.Rows
import Derived.BigRegion
namespace Go.Proofs.Ytffnadnndmmliaa
open Go.RowKit Go.Maps
set_option linter.unusedVariables false
theorem grown_ofB {w w' : World} (h : Below w.heap.size w w') : w.grownBy w' none := ⟨h.os, h.tape, h.output, h.size, fun k hk _ => h.block k hk⟩
theorem look_any {w : World} {gm n : Nat} {D : DataW Unit} {ns : List Nd} {x : Nd} (hm : w.ownsMap Try.prog 45 (plainElem Try.prog 3) gm n D) (hpd : PlacesD ns D) (hf : x.Fits) :
    ∃ c : Int, D.atKey (keyN x) (.lit (.int .i64 0)) = .lit (.int .i64 c) ∧ (Instr.lookup 102 (.map (some gm)) (.agg #[.int .i64 x.k, .int .i64 x.n, .int .i64 x.a, .int .i64 x.b]) true).run Try.prog w = .ok (.tuple #[.int .i64 c, .bool (decide (0 ≤ findN ns x))]) w := by
  obtain ⟨v, ps, hrun, hv⟩ := hm.look_ok nodeKeyed Try.underlying102 (zeroInt w) (plainElem_int Try.underlying3 (by decide)) (key_of hf)
  obtain ⟨c, rfl, hc, hwc⟩ := plainElem_int_inv Try.underlying3 hv
  rw [hpd.has x hf] at hrun
  exact ⟨c, congrArg Prod.fst hc, hrun⟩
theorem look_all {w0 : World} {gm n : Nat} {D : DataW Unit} {ns : List Nd} {x : Nd} (hm : w0.ownsMap Try.prog 45 (plainElem Try.prog 3) gm n D) (hpd : PlacesD ns D) (hf : x.Fits) :
    ∃ c : Int, (0 ≤ findN ns x → c = findN ns x) ∧ ∀ w : World, w.ownsMap Try.prog 45 (plainElem Try.prog 3) gm n D → (Instr.lookup 102 (.map (some gm)) (.agg #[.int .i64 x.k, .int .i64 x.n, .int .i64 x.a, .int .i64 x.b]) true).run Try.prog w = .ok (.tuple #[.int .i64 c, .bool (decide (0 ≤ findN ns x))]) w := by
  obtain ⟨c, h1, _⟩ := look_any hm hpd hf
  refine ⟨c, fun h0 => ?_, fun w hw => ?_⟩
  · rw [hpd.at' x hf h0] at h1
    simp at h1
    exact h1.symm
  · obtain ⟨c', h2, h3⟩ := look_any hw hpd hf
    rw [h1] at h2
    simp at h2
    rw [h2]; exact h3
set_option maxHeartbeats 1600000 in
set_option maxRecDepth 20000 in
theorem putR_old (B gr gm n f mx : Nat) (ns : List Nd) (x : Nd) (D : DataW Unit) (v : Value) (w : World) (hl : ns.length ≤ 1048576) (hf : x.Fits)
    (hb : w.heap[gr]? = some (.cells #[v, .map (some gm), .int .i64 (f : Int), .int .i64 (mx : Int)] 150 (0, 0))) (hv : OwnN B w v ns)
    (hm : w.ownsMap Try.prog 45 (plainElem Try.prog 3) gm n D) (hpd : PlacesD ns D) (hne : putKm mx ns x ≠ (ns.length : Int)) :
    Calls Try.prog 152 #[.pointer (some ⟨gr, 0, none⟩), .agg #[.int .i64 x.k, .int .i64 x.n, .int .i64 x.a, .int .i64 x.b]] w fun e w' => e = .returned (.int .i64 (putKm mx ns x)) ∧ Below w.heap.size w w' := by
  have hlt : gr < w.heap.size := (Array.getElem?_eq_some_iff.1 hb).1
  obtain ⟨a, cp, rfl, -, -⟩ := hv.row
  have hb0 : Below w.heap.size w (w.alloc (.cells #[.int .i64 x.k, .int .i64 x.n, .int .i64 x.a, .int .i64 x.b] 45)) := (Below.refl _ _).alloc (Nat.le_refl _) _
  have hn0 := heap_alloc_new w (.cells #[.int .i64 x.k, .int .i64 x.n, .int .i64 x.a, .int .i64 x.b] 45)
  have hg0 := (hb0.block _ hlt).trans hb
  have hm0 := hm.alloc (.cells #[.int .i64 x.k, .int .i64 x.n, .int .i64 x.a, .int .i64 x.b] 45)
  have hs0 : (w.alloc (.cells #[.int .i64 x.k, .int .i64 x.n, .int .i64 x.a, .int .i64 x.b] 45)).heap.size = w.heap.size + 1 := by simp
  obtain ⟨c, hcf, hlk⟩ := look_all hm0 hpd hf
  have k3 : (w.alloc (.cells #[.int .i64 x.k, .int .i64 x.n, .int .i64 x.a, .int .i64 x.b] 45)).cell? ⟨gr, 0, none⟩ = some (.slice a ns.length cp) := (cell_of_row _ _ 0 _ _ _ hg0).trans rfl
  have HM : Hid ((w.alloc (.cells #[.int .i64 x.k, .int .i64 x.n, .int .i64 x.a, .int .i64 x.b] 45)).ownsMap Try.prog 45 (plainElem Try.prog 3) gm n D) := hm0
  have HB0 : Hid (Below w.heap.size w (w.alloc (.cells #[.int .i64 x.k, .int .i64 x.n, .int .i64 x.a, .int .i64 x.b] 45))) := hb0
  have HG0 : Hid ((w.alloc (.cells #[.int .i64 x.k, .int .i64 x.n, .int .i64 x.a, .int .i64 x.b] 45)).heap[gr]? = some (.cells #[.slice a ns.length cp, .map (some gm), .int .i64 (f : Int), .int .i64 (mx : Int)] 150 (0, 0))) := hg0
  have HN0 : Hid ((w.alloc (.cells #[.int .i64 x.k, .int .i64 x.n, .int .i64 x.a, .int .i64 x.b] 45)).heap[w.heap.size]? = some (.cells #[.int .i64 x.k, .int .i64 x.n, .int .i64 x.a, .int .i64 x.b] 45 (0, 0))) := hn0
  have HLK : Hid _ := hlk
  have HP : Hid (∀ wz, Calls Try.prog 157 #[.agg #[.int .i64 x.k, .int .i64 x.n, .int .i64 x.a, .int .i64 x.b], .int .i64 (ns.length : Int), .int .i64 (if 0 ≤ findN ns x then c else -1), .int .i64 (mx : Int)] wz fun r w' => r = .returned (.int .i64 (putKm mx ns x)) ∧ Below wz.heap.size wz w') := fun wz => by
    have h1 := placeFor_any x ns.length (findN ns x) (mx : Int) wz
    rw [placeB_put] at h1
    have h2 : (if 0 ≤ findN ns x then c else -1) = findN ns x := by
      by_cases h0 : 0 ≤ findN ns x
      · rw [if_pos h0, hcf h0]
      · rw [if_neg h0]; have := findN_range ns x; omega
    rw [h2]; exact h1
  have hkn : ((putKm mx ns x) == (ns.length : Int)) = false := by simp [hne]
  generalize putKm mx ns x = pk at HP hkn ⊢
  clear hb hv hm hpd hb0 hn0 hg0 hm0 hlk hcf hne
  go_enter Try.func152, Try.ntmps152
  go_wp2_with fail
  clear k3
  generalize w.alloc (.cells #[.int .i64 x.k, .int .i64 x.n, .int .i64 x.a, .int .i64 x.b] 45) = w0 at HM HB0 HG0 HN0 hs0 ⊢
  obtain ⟨S, hS0, hNE, HK⟩ := below_class (Below.refl w0.heap.size w0) (Nat.le_refl _)
  have k4 : ∀ q : Hw S, q.w.cell? ⟨gr, 1, none⟩ = some (.map (some gm)) := fun q => ((HK.out.2 _ q.ok).cell (p := ⟨gr, 1, none⟩) (show gr < w0.heap.size by omega)).trans ((cell_of_row _ _ 1 _ _ _ HG0.out).trans rfl)
  have d0 : ∀ q : Hw S, q.w.cell? ⟨w.heap.size, 0, none⟩ = some (.int .i64 x.k) := fun q => ((HK.out.2 _ q.ok).cell (p := ⟨w.heap.size, 0, none⟩) (show w.heap.size < w0.heap.size by omega)).trans ((cell_of_row _ _ 0 _ _ _ HN0.out).trans rfl)
  have d1 : ∀ q : Hw S, q.w.cell? ⟨w.heap.size, 1, none⟩ = some (.int .i64 x.n) := fun q => ((HK.out.2 _ q.ok).cell (p := ⟨w.heap.size, 1, none⟩) (show w.heap.size < w0.heap.size by omega)).trans ((cell_of_row _ _ 1 _ _ _ HN0.out).trans rfl)
  have d2 : ∀ q : Hw S, q.w.cell? ⟨w.heap.size, 2, none⟩ = some (.int .i64 x.a) := fun q => ((HK.out.2 _ q.ok).cell (p := ⟨w.heap.size, 2, none⟩) (show w.heap.size < w0.heap.size by omega)).trans ((cell_of_row _ _ 2 _ _ _ HN0.out).trans rfl)
  have d3 : ∀ q : Hw S, q.w.cell? ⟨w.heap.size, 3, none⟩ = some (.int .i64 x.b) := fun q => ((HK.out.2 _ q.ok).cell (p := ⟨w.heap.size, 3, none⟩) (show w.heap.size < w0.heap.size by omega)).trans ((cell_of_row _ _ 3 _ _ _ HN0.out).trans rfl)
  have hlk : ∀ q : Hw S, (Instr.lookup 102 (.map (some gm)) (.agg #[.int .i64 x.k, .int .i64 x.n, .int .i64 x.a, .int .i64 x.b]) true).run Try.prog q.w = .ok (.tuple #[.int .i64 c, .bool (decide (0 ≤ findN ns x))]) q.w := fun q => HLK.out q.w (HM.out.kept (grown_ofB (HK.out.2 _ q.ok)) (by simp))
  refine wp_region_held (S := S) (by kernel_rfl) (by kernel_rfl) hS0 ?_
  repeat (go_big_quiet_step (fail))
  refine wpQuiet_nil ?_
  rintro _ ⟨sw, rfl⟩
  have hB := HK.out.2 _ sw.ok
  generalize sw.w = w2 at hB ⊢
  clear k4 d0 d1 d2 d3 hlk HK
  have hn2 := (hB.block w.heap.size (by omega)).trans HN0.out
  have e0 : w2.cell? ⟨w.heap.size, 0, none⟩ = some (.int .i64 x.k) := (cell_of_row _ _ 0 _ _ _ hn2).trans rfl
  have e1 : w2.cell? ⟨w.heap.size, 1, none⟩ = some (.int .i64 x.n) := (cell_of_row _ _ 1 _ _ _ hn2).trans rfl
  have e2 : w2.cell? ⟨w.heap.size, 2, none⟩ = some (.int .i64 x.a) := (cell_of_row _ _ 2 _ _ _ hn2).trans rfl
  have e3 : w2.cell? ⟨w.heap.size, 3, none⟩ = some (.int .i64 x.b) := (cell_of_row _ _ 3 _ _ _ hn2).trans rfl
  have e4 : w2.cell? ⟨gr, 3, none⟩ = some (.int .i64 (mx : Int)) := (cell_of_row _ _ 3 _ _ _ ((hB.block gr (by omega)).trans HG0.out)).trans rfl
  have HB2 : Hid (Below w.heap.size w w2) := HB0.out.trans (hB.mono (by omega))
  have l1 : w.heap.size < w2.heap.size := by have := hB.size; omega
  have l2 : gr < w2.heap.size := by have := hB.size; omega
  clear hn2 hB
  obtain ⟨S2, hS2, hNE2, HK2⟩ := below_class (Below.refl w2.heap.size w2) (Nat.le_refl _)
  have e0' : ∀ q : Hw S2, q.w.cell? ⟨w.heap.size, 0, none⟩ = some (.int .i64 x.k) := fun q => ((HK2.out.2 _ q.ok).cell (p := ⟨w.heap.size, 0, none⟩) l1).trans e0
  have e1' : ∀ q : Hw S2, q.w.cell? ⟨w.heap.size, 1, none⟩ = some (.int .i64 x.n) := fun q => ((HK2.out.2 _ q.ok).cell (p := ⟨w.heap.size, 1, none⟩) l1).trans e1
  have e2' : ∀ q : Hw S2, q.w.cell? ⟨w.heap.size, 2, none⟩ = some (.int .i64 x.a) := fun q => ((HK2.out.2 _ q.ok).cell (p := ⟨w.heap.size, 2, none⟩) l1).trans e2
  have e3' : ∀ q : Hw S2, q.w.cell? ⟨w.heap.size, 3, none⟩ = some (.int .i64 x.b) := fun q => ((HK2.out.2 _ q.ok).cell (p := ⟨w.heap.size, 3, none⟩) l1).trans e3
  have e4' : ∀ q : Hw S2, q.w.cell? ⟨gr, 3, none⟩ = some (.int .i64 (mx : Int)) := fun q => ((HK2.out.2 _ q.ok).cell (p := ⟨gr, 3, none⟩) l2).trans e4
  by_cases h0 : 0 ≤ findN ns x
  · rw [if_pos h0] at HP
    have hd : decide (0 ≤ findN ns x) = true := by simp [h0]
    rw [hd]
    go_wp2_with fail
    refine wp_region_held (S := S2) (by kernel_rfl) (by kernel_rfl) hS2 ?_
    repeat (go_big_quiet_step (first | (go_at_call 157; exact Calls.held (HP.out _) (HK2.out.1 _))))
    refine wpQuiet_nil ?_
    rintro _ ⟨sw3, rfl⟩
    have hb3 := HK2.out.2 _ sw3.ok
    generalize sw3.w = w3 at hb3 ⊢
    clear e0' e1' e2' e3' e4' HK2 hS2 hNE2
    have HB3 : Hid (Below w.heap.size w w3) := HB2.out.trans (hb3.mono HB2.out.size)
    clear e0 e1 e2 e3 e4 hb3
    go_wp2
    go_ret
    exact ⟨rfl, HB3.out⟩
  · rw [if_neg h0] at HP
    have hd : decide (0 ≤ findN ns x) = false := by simp [h0]
    rw [hd]
    go_wp2_with fail
    refine wp_region_held (S := S2) (by kernel_rfl) (by kernel_rfl) hS2 ?_
    repeat (go_big_quiet_step (first | (go_at_call 157; exact Calls.held (HP.out _) (HK2.out.1 _))))
    refine wpQuiet_nil ?_
    rintro _ ⟨sw3, rfl⟩
    have hb3 := HK2.out.2 _ sw3.ok
    generalize sw3.w = w3 at hb3 ⊢
    clear e0' e1' e2' e3' e4' HK2 hS2 hNE2
    have HB3 : Hid (Below w.heap.size w w3) := HB2.out.trans (hb3.mono HB2.out.size)
    clear e0 e1 e2 e3 e4 hb3
    go_wp2
    go_ret
    exact ⟨rfl, HB3.out⟩
end Go.Proofs.Ytffnadnndmmliaa
