/- The program's arena in the making (chapter 3): put, where a new node comes. -/
import Derived.Test.YtffnadnndmmliaaBldPut
import Derived.WalkKit
import Derived.WalkLawsBesides
import Derived.WalkSpells
import Derived.Laws.Rows
import Derived.Laws.OwnMore
import Derived.BigRegion
import Derived.Deep.RegionLaw
import Derived.Deep.AppendLies
import Derived.OneCell
namespace Go.Proofs.Ytffnadnndmmliaa
open Go.RowKit Go.Maps
set_option linter.unusedVariables false
/-- An arena in the making, in memory: its four cells, its nodes, its places; room for as many as mx tells. -/
def BldM (mx B gr gm n f : Nat) (ns : List Nd) (v : Value) (w : World) : Prop :=
  ∃ D, w.heap[gr]? = some (.cells #[v, .map (some gm), .int .i64 (f : Int), .int .i64 (mx : Int)] 150 (0, 0)) ∧ OwnN B w v ns ∧
    w.ownsMap Try.prog 45 (plainElem Try.prog 3) gm n D ∧ PlacesD ns D ∧ B ≤ gr ∧ B ≤ gm ∧ gr ≠ gm ∧ v.ownBlock ≠ some gr ∧ v.ownBlock ≠ some gm
abbrev BldAt := BldM 3000
/-- What put keeps: every block but its own three; the row of nodes afterwards is the one of before or a new one. -/
def Keep (gr gm : Nat) (v v' : Value) (w w' : World) : Prop :=
  (∀ k, k < w.heap.size → k ≠ gr → k ≠ gm → v.ownBlock ≠ some k → w'.heap[k]? = w.heap[k]?) ∧ w.heap.size ≤ w'.heap.size ∧ (v'.ownBlock = v.ownBlock ∨ ∀ k, v'.ownBlock = some k → w.heap.size ≤ k)
set_option maxHeartbeats 1600000 in
set_option maxRecDepth 20000 in
theorem putR_new (B gr gm n f mx : Nat) (ns : List Nd) (x : Nd) (D : DataW Unit) (v : Value) (w : World) (hl : ns.length ≤ 1048576) (hf : x.Fits)
    (hb : w.heap[gr]? = some (.cells #[v, .map (some gm), .int .i64 (f : Int), .int .i64 (mx : Int)] 150 (0, 0))) (hv : OwnN B w v ns)
    (hm : w.ownsMap Try.prog 45 (plainElem Try.prog 3) gm n D) (hpd : PlacesD ns D) (hnw : n ≤ 1048576) (hne : putKm mx ns x = (ns.length : Int)) (hBg : B ≤ gr) (hBm : B ≤ gm) (hgm : gr ≠ gm) (hvg : v.ownBlock ≠ some gr) (hvm : v.ownBlock ≠ some gm) :
    Calls Try.prog 152 #[.pointer (some ⟨gr, 0, none⟩), .agg #[.int .i64 x.k, .int .i64 x.n, .int .i64 x.a, .int .i64 x.b]] w fun e w' => e = .returned (.int .i64 (ns.length : Int)) ∧ ∃ v', BldM mx B gr gm (n + 1) f (ns ++ [x]) v' w' ∧ Keep gr gm v v' w w' ∧ Below B w w' := by
  have hlt : gr < w.heap.size := (Array.getElem?_eq_some_iff.1 hb).1
  have hmlt : gm < w.heap.size := hm.lt
  obtain ⟨i0, hi, hz0, hz1, hz2⟩ := info_parts infoNode
  have hnf : findN ns x = -1 ∧ ns.length < mx := by
    unfold putKm at hne
    split at hne
    · split at hne
      · assumption
      · have := findN_range ns x; omega
    · omega
  have HPD : Hid (PlacesD (ns ++ [x]) (D.put (keyN x) (.lit (.int .i64 (ns.length : Int))))) := hpd.new hf hnf.1
  have HKY : Hid _ := key_of hf
  have HF : Hid (findN ns x = -1) := hnf.1
  have hl3 := hnf.2
  clear hnf
  obtain ⟨a, cp, rfl, -, -⟩ := hv.row
  have HV : Hid (OwnN B w (.slice a ns.length cp) ns) := hv
  have hb0 : Below w.heap.size w (w.alloc (.cells #[.int .i64 x.k, .int .i64 x.n, .int .i64 x.a, .int .i64 x.b] 45)) := (Below.refl _ _).alloc (Nat.le_refl _) _
  have hn0 := heap_alloc_new w (.cells #[.int .i64 x.k, .int .i64 x.n, .int .i64 x.a, .int .i64 x.b] 45)
  have hg0 := (hb0.block _ hlt).trans hb
  have hm0 := hm.alloc (.cells #[.int .i64 x.k, .int .i64 x.n, .int .i64 x.a, .int .i64 x.b] 45)
  have hs0 : (w.alloc (.cells #[.int .i64 x.k, .int .i64 x.n, .int .i64 x.a, .int .i64 x.b] 45)).heap.size = w.heap.size + 1 := by simp
  obtain ⟨c, hcf, hlk⟩ := look_all hm0 hpd hf
  have k3 : (w.alloc (.cells #[.int .i64 x.k, .int .i64 x.n, .int .i64 x.a, .int .i64 x.b] 45)).cell? ⟨gr, 0, none⟩ = some (.slice a ns.length cp) := (cell_of_row _ _ 0 _ _ _ hg0).trans rfl
  have HM : Hid ((w.alloc (.cells #[.int .i64 x.k, .int .i64 x.n, .int .i64 x.a, .int .i64 x.b] 45)).ownsMap Try.prog 45 (plainElem Try.prog 3) gm n D) := hm0
  have HB0 : Hid (Below w.heap.size w (w.alloc (.cells #[.int .i64 x.k, .int .i64 x.n, .int .i64 x.a, .int .i64 x.b] 45))) := hb0
  have HG0 : Hid ((w.alloc (.cells #[.int .i64 x.k, .int .i64 x.n, .int .i64 x.a, .int .i64 x.b] 45)).heap[gr]? = some (.cells #[.slice a ns.length cp, .map (some gm), .int .i64 (f : Int), .int .i64 (mx : Int)] 150 (0, 0))) := hg0
  have HN0 : Hid ((w.alloc (.cells #[.int .i64 x.k, .int .i64 x.n, .int .i64 x.a, .int .i64 x.b] 45)).heap[w.heap.size]? = some (.cells #[.int .i64 x.k, .int .i64 x.n, .int .i64 x.a, .int .i64 x.b] 45 (0, 0))) := hn0
  have HLK : Hid _ := hlk
  have HOV : Hid (OwnN B (w.alloc (.cells #[.int .i64 x.k, .int .i64 x.n, .int .i64 x.a, .int .i64 x.b] 45)) (.slice a ns.length cp) ns) := hv.later hb0
  have HP : Hid (∀ wz, Calls Try.prog 157 #[.agg #[.int .i64 x.k, .int .i64 x.n, .int .i64 x.a, .int .i64 x.b], .int .i64 (ns.length : Int), .int .i64 (if 0 ≤ findN ns x then c else -1), .int .i64 (mx : Int)] wz fun r w' => r = .returned (.int .i64 (putKm mx ns x)) ∧ Below wz.heap.size wz w') := fun wz => by
    have h1 := placeFor_any x ns.length (findN ns x) (mx : Int) wz
    rw [placeB_put] at h1
    have h2 : (if 0 ≤ findN ns x then c else -1) = findN ns x := by
      by_cases h0 : 0 ≤ findN ns x
      · rw [if_pos h0, hcf h0]
      · rw [if_neg h0]; have := findN_range ns x; omega
    rw [h2]; exact h1
  rw [hne, HF.out] at HP
  rw [if_neg (by omega)] at HP
  clear hb hv hm hpd hb0 hn0 hg0 hm0 hlk hcf hne
  go_enter Try.func152, Try.ntmps152
  go_wp2_with fail
  clear k3
  generalize w.alloc (.cells #[.int .i64 x.k, .int .i64 x.n, .int .i64 x.a, .int .i64 x.b] 45) = w0 at HM HB0 HG0 HN0 HOV hs0 ⊢
  obtain ⟨S, hS0, hNE, HK⟩ := below_class (Below.refl w0.heap.size w0) (Nat.le_refl _)
  have k4 : ∀ q : Hw S, q.w.cell? ⟨gr, 1, none⟩ = some (.map (some gm)) := fun q => ((HK.out.2 _ q.ok).cell (p := ⟨gr, 1, none⟩) (show gr < w0.heap.size by omega)).trans ((cell_of_row _ _ 1 _ _ _ HG0.out).trans rfl)
  have d0 : ∀ q : Hw S, q.w.cell? ⟨w.heap.size, 0, none⟩ = some (.int .i64 x.k) := fun q => ((HK.out.2 _ q.ok).cell (p := ⟨w.heap.size, 0, none⟩) (show w.heap.size < w0.heap.size by omega)).trans ((cell_of_row _ _ 0 _ _ _ HN0.out).trans rfl)
  have d1 : ∀ q : Hw S, q.w.cell? ⟨w.heap.size, 1, none⟩ = some (.int .i64 x.n) := fun q => ((HK.out.2 _ q.ok).cell (p := ⟨w.heap.size, 1, none⟩) (show w.heap.size < w0.heap.size by omega)).trans ((cell_of_row _ _ 1 _ _ _ HN0.out).trans rfl)
  have d2 : ∀ q : Hw S, q.w.cell? ⟨w.heap.size, 2, none⟩ = some (.int .i64 x.a) := fun q => ((HK.out.2 _ q.ok).cell (p := ⟨w.heap.size, 2, none⟩) (show w.heap.size < w0.heap.size by omega)).trans ((cell_of_row _ _ 2 _ _ _ HN0.out).trans rfl)
  have d3 : ∀ q : Hw S, q.w.cell? ⟨w.heap.size, 3, none⟩ = some (.int .i64 x.b) := fun q => ((HK.out.2 _ q.ok).cell (p := ⟨w.heap.size, 3, none⟩) (show w.heap.size < w0.heap.size by omega)).trans ((cell_of_row _ _ 3 _ _ _ HN0.out).trans rfl)
  have hlk : ∀ q : Hw S, (Instr.lookup 102 (.map (some gm)) (.agg #[.int .i64 x.k, .int .i64 x.n, .int .i64 x.a, .int .i64 x.b]) true).run Try.prog q.w = .ok (.tuple #[.int .i64 c, .bool (decide (0 ≤ findN ns x))]) q.w := fun q => HLK.out q.w (HM.out.kept (grown_ofB (HK.out.2 _ q.ok)) (by simp))
  refine wp_region_held (S := S) (by kernel_rfl) (by kernel_rfl) hS0 ?_
  repeat (go_big_quiet_step (fail))
  refine wpQuiet_nil ?_
  rintro _ ⟨sw, rfl⟩
  have hB := HK.out.2 _ sw.ok
  generalize sw.w = w2 at hB ⊢
  clear k4 d0 d1 d2 d3 hlk HK
  have hn2 := (hB.block w.heap.size (by omega)).trans HN0.out
  have e0 : w2.cell? ⟨w.heap.size, 0, none⟩ = some (.int .i64 x.k) := (cell_of_row _ _ 0 _ _ _ hn2).trans rfl
  have e1 : w2.cell? ⟨w.heap.size, 1, none⟩ = some (.int .i64 x.n) := (cell_of_row _ _ 1 _ _ _ hn2).trans rfl
  have e2 : w2.cell? ⟨w.heap.size, 2, none⟩ = some (.int .i64 x.a) := (cell_of_row _ _ 2 _ _ _ hn2).trans rfl
  have e3 : w2.cell? ⟨w.heap.size, 3, none⟩ = some (.int .i64 x.b) := (cell_of_row _ _ 3 _ _ _ hn2).trans rfl
  have HB2 : Hid (Below w.heap.size w w2) := HB0.out.trans (hB.mono (by omega))
  have HM2 : Hid (w2.ownsMap Try.prog 45 (plainElem Try.prog 3) gm n D) := HM.out.kept (grown_ofB hB) (by simp)
  have HO2 : Hid (OwnN B w2 (.slice a ns.length cp) ns) := HOV.out.later hB
  have HG2 : Hid (w2.heap[gr]? = some (.cells #[.slice a ns.length cp, .map (some gm), .int .i64 (f : Int), .int .i64 (mx : Int)] 150 (0, 0))) := (hB.block gr (by omega)).trans HG0.out
  have e4 : w2.cell? ⟨gr, 3, none⟩ = some (.int .i64 (mx : Int)) := (cell_of_row _ _ 3 _ _ _ HG2.out).trans rfl
  have HN2 : Hid (w2.heap[w.heap.size]? = some (.cells #[.int .i64 x.k, .int .i64 x.n, .int .i64 x.a, .int .i64 x.b] 45 (0, 0))) := hn2
  have hs2 : w.heap.size + 1 ≤ w2.heap.size := by have := hB.size; omega
  clear hn2 hB HM HOV HG0 HN0 HB0 HLK
  have hd : decide (0 ≤ findN ns x) = false := by rw [HF.out]; rfl
  rw [hd]
  clear hd
  obtain ⟨S2, hS2, hNE2, HK2⟩ := below_class (Below.refl w2.heap.size w2) (Nat.le_refl _)
  have l1 : w.heap.size < w2.heap.size := by omega
  have l2 : gr < w2.heap.size := by omega
  have e0' : ∀ q : Hw S2, q.w.cell? ⟨w.heap.size, 0, none⟩ = some (.int .i64 x.k) := fun q => ((HK2.out.2 _ q.ok).cell (p := ⟨w.heap.size, 0, none⟩) l1).trans e0
  have e1' : ∀ q : Hw S2, q.w.cell? ⟨w.heap.size, 1, none⟩ = some (.int .i64 x.n) := fun q => ((HK2.out.2 _ q.ok).cell (p := ⟨w.heap.size, 1, none⟩) l1).trans e1
  have e2' : ∀ q : Hw S2, q.w.cell? ⟨w.heap.size, 2, none⟩ = some (.int .i64 x.a) := fun q => ((HK2.out.2 _ q.ok).cell (p := ⟨w.heap.size, 2, none⟩) l1).trans e2
  have e3' : ∀ q : Hw S2, q.w.cell? ⟨w.heap.size, 3, none⟩ = some (.int .i64 x.b) := fun q => ((HK2.out.2 _ q.ok).cell (p := ⟨w.heap.size, 3, none⟩) l1).trans e3
  have e4' : ∀ q : Hw S2, q.w.cell? ⟨gr, 3, none⟩ = some (.int .i64 (mx : Int)) := fun q => ((HK2.out.2 _ q.ok).cell (p := ⟨gr, 3, none⟩) l2).trans e4
  go_wp2_with fail
  refine wp_region_held (S := S2) (by kernel_rfl) (by kernel_rfl) hS2 ?_
  repeat (go_big_quiet_step (first | (go_at_call 157; exact Calls.held (HP.out _) (HK2.out.1 _))))
  refine wpQuiet_nil ?_
  rintro _ ⟨sw3, rfl⟩
  have hb3 := HK2.out.2 _ sw3.ok
  generalize sw3.w = w3 at hb3 ⊢
  clear e0' e1' e2' e3' e4' HK2 hS2 hNE2
  have HB3 : Hid (Below w.heap.size w w3) := HB2.out.trans (hb3.mono HB2.out.size)
  have HM3 : Hid (w3.ownsMap Try.prog 45 (plainElem Try.prog 3) gm n D) := HM2.out.kept (grown_ofB hb3) (by simp)
  have ho3 : OwnN B w3 (.slice a ns.length cp) ns := HO2.out.later hb3
  have hg3 := (hb3.block gr (by omega)).trans HG2.out
  have hn3 := (hb3.block w.heap.size (by omega)).trans HN2.out
  have hs3 : w.heap.size + 1 ≤ w3.heap.size := by have := hb3.size; omega
  have HG3 : Hid (w3.heap[gr]? = some (.cells #[.slice a ns.length cp, .map (some gm), .int .i64 (f : Int), .int .i64 (mx : Int)] 150 (0, 0))) := hg3
  have HN3 : Hid (w3.heap[w.heap.size]? = some (.cells #[.int .i64 x.k, .int .i64 x.n, .int .i64 x.a, .int .i64 x.b] 45 (0, 0))) := hn3
  clear e0 e1 e2 e3 e4 hb3 HB2 HM2 HO2 HG2 HN2 HP
  have g3 : w3.cell? ⟨gr, 0, none⟩ = some (.slice a ns.length cp) := (cell_of_row _ _ 0 _ _ _ hg3).trans rfl
  have e0 : w3.cell? ⟨w.heap.size, 0, none⟩ = some (.int .i64 x.k) := (cell_of_row _ _ 0 _ _ _ hn3).trans rfl
  have e1 : w3.cell? ⟨w.heap.size, 1, none⟩ = some (.int .i64 x.n) := (cell_of_row _ _ 1 _ _ _ hn3).trans rfl
  have e2 : w3.cell? ⟨w.heap.size, 2, none⟩ = some (.int .i64 x.a) := (cell_of_row _ _ 2 _ _ _ hn3).trans rfl
  have e3 : w3.cell? ⟨w.heap.size, 3, none⟩ = some (.int .i64 x.b) := (cell_of_row _ _ 3 _ _ _ hn3).trans rfl
  have HOW : Hid ((w3.alloc (.cells #[.int .i64 x.k, .int .i64 x.n, .int .i64 x.a, .int .i64 x.b] 45)).drew.ownsRow B 45 4 (.slice a ns.length cp) ns.length (cellsN ns)) := (World.ownsRow.alloc ho3 _).drew
  have HNW : Hid (∀ j u, x.cells[j]? = some u → (w3.alloc (.cells #[.int .i64 x.k, .int .i64 x.n, .int .i64 x.a, .int .i64 x.b] 45)).drew.cell? ((⟨w3.heap.size, 0, none⟩ : Addr).add j) = some u) := World.news_of_block (cs := #[.int .i64 x.k, .int .i64 x.n, .int .i64 x.a, .int .i64 x.b]) (t := 45) (fr := (0, 0)) (heap_alloc_new w3 _)
  have HCF : Hid (∀ wz, (w3.alloc (.cells #[.int .i64 x.k, .int .i64 x.n, .int .i64 x.a, .int .i64 x.b] 45)).drew.grownBy wz (Value.slice a ns.length cp).ownBlock → wz.heap[gr]? = some (.cells #[.slice a ns.length cp, .map (some gm), .int .i64 (f : Int), .int .i64 (mx : Int)] 150 (0, 0))) := fun wz hgz => by
    rw [hgz.block gr (by simp; omega) (fun e => hvg e.symm)]
    exact (heap_alloc_old w3 _ (by omega)).trans HG3.out
  have HFIN : Hid (∀ gg cap1 wz, wz.ownsRow B 45 4 (.slice (some ⟨gg, 0, none⟩) (ns.length + 1) cap1) (ns.length + 1) (cellsN ns ++ x.cells) → (w3.alloc (.cells #[.int .i64 x.k, .int .i64 x.n, .int .i64 x.a, .int .i64 x.b] 45)).drew.grownBy wz (Value.slice a ns.length cp).ownBlock → ((Value.slice a ns.length cp).ownBlock = some gg ∨ gg = w3.heap.size + 1) → gg < wz.heap.size →
      (wz.setCell ⟨gr, 0, none⟩ (.slice (some ⟨gg, 0, none⟩) (ns.length + 1) cap1)).heap[gr]? = some (.cells #[.slice (some ⟨gg, 0, none⟩) (ns.length + 1) cap1, .map (some gm), .int .i64 (f : Int), .int .i64 (mx : Int)] 150 (0, 0)) ∧
      OwnN B (wz.setCell ⟨gr, 0, none⟩ (.slice (some ⟨gg, 0, none⟩) (ns.length + 1) cap1)) (.slice (some ⟨gg, 0, none⟩) (ns.length + 1) cap1) (ns ++ [x]) ∧
      (wz.setCell ⟨gr, 0, none⟩ (.slice (some ⟨gg, 0, none⟩) (ns.length + 1) cap1)).ownsMap Try.prog 45 (plainElem Try.prog 3) gm n D ∧
      (wz.setCell ⟨gr, 0, none⟩ (.slice (some ⟨gg, 0, none⟩) (ns.length + 1) cap1)).heap[w.heap.size]? = some (.cells #[.int .i64 x.k, .int .i64 x.n, .int .i64 x.a, .int .i64 x.b] 45 (0, 0)) ∧
      Below B w (wz.setCell ⟨gr, 0, none⟩ (.slice (some ⟨gg, 0, none⟩) (ns.length + 1) cap1)) ∧ gg ≠ gr ∧ gg ≠ gm ∧ Keep gr gm (.slice a ns.length cp) (.slice (some ⟨gg, 0, none⟩) (ns.length + 1) cap1) w (wz.setCell ⟨gr, 0, none⟩ (.slice (some ⟨gg, 0, none⟩) (ns.length + 1) cap1))) := fun gg cap1 wz ho hgz hat hgl => by
    have hblk := HCF.out wz hgz
    have hng : gg ≠ gr := by
      rcases hat with h | h
      · exact fun e => hvg (by rw [h, e])
      · omega
    have hnm : gg ≠ gm := by
      rcases hat with h | h
      · exact fun e => hvm (by rw [h, e])
      · omega
    have hnb : wz.heap[w.heap.size]? = some (.cells #[.int .i64 x.k, .int .i64 x.n, .int .i64 x.a, .int .i64 x.b] 45 (0, 0)) := by
      rw [hgz.block w.heap.size (by simp; omega) (fun e => by have := (HV.out.lt _ e.symm).2; omega)]
      exact (heap_alloc_old w3 _ (by omega)).trans HN3.out
    have hBz : Below B w wz := ((HB3.out.mono (show B ≤ w.heap.size by omega)).alloc (by omega) _).drew.grown hgz (by simp; omega) (fun k hk => (HV.out.lt k hk).1)
    refine ⟨(heap_setCell_same _ _ 0 _ _ _ hblk).trans rfl, ?_, ?_, (Below.heap_setCell _ _ _ _ (by simp; omega)).trans hnb, hBz.setCell hBg _, hng, hnm, ⟨fun k hk hk1 hk2 hk3 => ?_, by simpa using hBz.size, ?_⟩⟩
    · have e : cellsN (ns ++ [x]) = cellsN ns ++ x.cells := by rw [cellsN_append]; simp [cellsN]
      unfold OwnN
      rw [e]
      simpa using ownsRow_setCell_other ho (a := ⟨gr, 0, none⟩) (by simpa [Value.ownBlock] using hng) (.slice (some ⟨gg, 0, none⟩) (ns.length + 1) cap1)
    · exact World.ownsMap.setCell (((HM3.out.alloc _).drew).kept hgz (fun e => hvm e.symm)) (by simpa using Ne.symm hgm) _
    · rw [Below.heap_setCell _ _ _ _ (by simpa using hk1), hgz.block k (by simp; omega) (fun e => hk3 e.symm)]
      exact (heap_alloc_old w3 _ (by omega)).trans (HB3.out.block k hk)
    · rcases hat with h | h
      · left; simpa [Value.ownBlock] using h.symm
      · right; intro k hk; simp [Value.ownBlock] at hk; omega
  have s1 : Hid (∀ u ∈ x.cells, u.oneCell' = true) := by intro u hu; simp only [Nd.cells, List.mem_cons, List.not_mem_nil, or_false] at hu; rcases hu with rfl | rfl | rfl | rfl <;> rfl
  have s2 : Hid (ns.length + 1 ≤ maxLen) := by show _ ≤ _; unfold maxLen; omega
  have s3 : Hid ((ns.length + 1) * 32 ≤ 140737488355328) := by show _ ≤ _; omega
  have s4 : Hid (B ≤ (w3.alloc (.cells #[.int .i64 x.k, .int .i64 x.n, .int .i64 x.a, .int .i64 x.b] 45)).drew.heap.size) := by show _ ≤ _; simp; omega
  have s5 : Hid ((w3.alloc (.cells #[.int .i64 x.k, .int .i64 x.n, .int .i64 x.a, .int .i64 x.b] 45)).drew.heap.size = w3.heap.size + 1) := by show _ = _; simp
  have s6 : Hid ((0 : Nat) < 4) := by show _ < _; omega
  have s7 : Hid ((0 : Nat) < 1) := by show _ < _; omega
  have hgr3 : gr < w3.heap.size := by omega
  have hwn3 : w.heap.size < w3.heap.size := by omega
  clear hg3 hn3 ho3
  go_wp2_with fail
  go_region_law (refine step_append_lies _ rfl (.tmp 40) (.tmp 42) 26 rfl B 45 i0 _ 4 32 Try.underlying26 hi hz0 hz1 hz2 rfl s6.out (.slice a ns.length cp) ns.length _ (by simp [Act.eval]) HOW.out ⟨w3.heap.size, 0, none⟩ 1 1 x.cells (by simp [Act.eval]) rfl HNW.out s1.out s7.out s2.out s3.out s4.out (w3.heap.size + 1) s5.out ?_; intro gg cap1 wz hown1 hgrow hat hglz; have hblk := HCF.out wz hgrow; have hcg := cell_of_row wz gr 0 _ _ _ hblk; have hfg := frozen_of_row wz gr 0 _ _ hblk; clear hblk)
  all_goals
    obtain ⟨f1, f2, f3, f4, f5, f6, f7, f8⟩ := HFIN.out gg cap1 wz hown1 hgrow hat hglz
    clear HFIN HCF HOW HNW hown1 hgrow hat hcg hfg g3 e0 e1 e2 e3 s1 s2 s3 s4 s5 s6 s7 HG3 HN3 HM3 HB3 hglz
    generalize wz.setCell ⟨gr, 0, none⟩ (.slice (some ⟨gg, 0, none⟩) (ns.length + 1) cap1) = w5 at f1 f2 f3 f4 f5 f8 ⊢
    have hbs := f5.size
    obtain ⟨w6, hup, hm6, hg6⟩ := f3.drew.update nodeKeyed Try.underlying102 (by unfold maxLen; omega) HKY.out (plainElem_int Try.underlying3 (a := (ns.length : Int)) (WalkArith.wf_i64 (by omega)))
    have q4 : w5.cell? ⟨gr, 1, none⟩ = some (.map (some gm)) := (cell_of_row _ _ 1 _ _ _ f1).trans rfl
    have q0 : w5.cell? ⟨w.heap.size, 0, none⟩ = some (.int .i64 x.k) := (cell_of_row _ _ 0 _ _ _ f4).trans rfl
    have q1 : w5.cell? ⟨w.heap.size, 1, none⟩ = some (.int .i64 x.n) := (cell_of_row _ _ 1 _ _ _ f4).trans rfl
    have q2 : w5.cell? ⟨w.heap.size, 2, none⟩ = some (.int .i64 x.a) := (cell_of_row _ _ 2 _ _ _ f4).trans rfl
    have q3 : w5.cell? ⟨w.heap.size, 3, none⟩ = some (.int .i64 x.b) := (cell_of_row _ _ 3 _ _ _ f4).trans rfl
    have hl5 : gr < w5.heap.size := (Array.getElem?_eq_some_iff.1 f1).1
    have HR6 : Hid (BldM mx B gr gm (n + 1) f (ns ++ [x]) (.slice (some ⟨gg, 0, none⟩) (ns.length + 1) cap1) w6) := ⟨_, (hg6.block gr (by simpa using hl5) (by simpa using hgm)).trans f1, World.ownsRow.kept f2.drew hg6 (.inr (by simpa [Value.ownBlock] using f7)), hm6, HPD.out, hBg, hBm, hgm, by simpa [Value.ownBlock] using f6, by simpa [Value.ownBlock] using f7⟩
    have HB6 : Hid (Below B w w6) := f5.drew.grown hg6 (by simp; omega) (fun k hk => by cases hk; exact hBm)
    have HK6 : Hid (Keep gr gm (.slice a ns.length cp) (.slice (some ⟨gg, 0, none⟩) (ns.length + 1) cap1) w w6) := ⟨fun k hk hk1 hk2 hk3 => (hg6.block k (by simp; omega) (by simpa using hk2)).trans (f8.1 k hk hk1 hk2 hk3), Nat.le_trans hbs hg6.size, f8.2.2⟩
    clear f1 f2 f3 f4 f5 f6 f7 f8 hm6 hg6 HPD HKY
    go_wp2_with fail
    go_region
    all_goals
      go_wp2
      go_ret
      exact ⟨rfl, _, HR6.out, HK6.out, HB6.out⟩
end Go.Proofs.Ytffnadnndmmliaa
