/- Chapter 11's reader of words (the program's): a letter, read. -/
import Derived.Test.YtlecpjgeaigjkaaWrd11d
import Derived.Test.YtlecpjgeaigjkaaLin11
namespace Go.Proofs.Ytlecpjgeaigjkaa
open Go.RowKit
set_option linter.unusedVariables false
theorem ltSize11 : (Try.prog.info? 83).map (·.size) = some 2 := by kernel_rfl
def rowX (X : Nat → Int) (m : Nat) : List Int := (List.range m).map X
theorem rowX_len (X : Nat → Int) (m : Nat) : (rowX X m).length = m := by simp [rowX]
theorem rowX_more (X : Nat → Int) (m : Nat) : rowX X (m + 1) = rowX X m ++ [X m] := by simp [rowX, List.range_succ]
/-- While a letter's parts are read. -/
structure LtW (g : Nat) (a : Option Addr) (cap : Nat) (ns : List Nd) (k : Int) (X : Nat → Int) (n m h : Nat) (w wr : World) : Prop where
  rd : Rd g a cap ns k wr
  grown : w.grownBy wr (some g)
  res : wr.heap[w.heap.size]? = some (.cells #[.int .i64 0, .slice none 0 0] 83 (0, 0))
  row : wr.heap[h]? = some (.cells (rowZ (rowX X m) n).toArray 3 (0, 0))
  lo : w.heap.size < h
theorem LtW.next {g : Nat} {a : Option Addr} {cap : Nat} {ns : List Nd} {k k' : Int} {X : Nat → Int} {n m h : Nat} {w wr w2 : World} (hlt : g < w.heap.size) (H : LtW g a cap ns k X n m h w wr) (hr : Rd g a cap ns k' w2) (hg : wr.grownBy w2 (some g)) : LtW g a cap ns k' X n m h w w2 :=
  ⟨hr, grw_more H.grown hg, (hg.block _ (Array.getElem?_eq_some_iff.1 H.res).1 (by simp; omega)).trans H.res, (hg.block _ (Array.getElem?_eq_some_iff.1 H.row).1 (by have := H.lo; simp; omega)).trans H.row, H.lo⟩
theorem LtW.put {g : Nat} {a : Option Addr} {cap : Nat} {ns : List Nd} {k : Int} {X : Nat → Int} {n m h : Nat} {w wr : World} (hlt : g < w.heap.size) (hm : m < n) (H : LtW g a cap ns k X n m h w wr) : LtW g a cap ns k X n (m + 1) h w (wr.setCell ⟨h, m, none⟩ (.int .i64 (X m))) := by
  have hlo := H.lo
  have hB : Below w.heap.size wr (wr.setCell ⟨h, m, none⟩ (.int .i64 (X m))) := (Below.refl _ wr).setCell (show w.heap.size ≤ (⟨h, m, none⟩ : Addr).block from Nat.le_of_lt hlo) _
  have hk : ∀ q, q ≠ h → (wr.setCell ⟨h, m, none⟩ (.int .i64 (X m))).heap[q]? = wr.heap[q]? := fun q hq => Below.heap_setCell _ _ _ _ hq
  refine ⟨⟨(hk g (by omega)).trans H.rd.1, H.rd.2.later (hB.mono (by omega))⟩, ⟨hB.os.trans H.grown.os, hB.tape.trans H.grown.tape, hB.output.trans H.grown.output, Nat.le_trans H.grown.size (by simp), fun q hq hn => (hk q (by omega)).trans (H.grown.block q hq hn)⟩, (hk _ (by omega)).trans H.res, ?_, hlo⟩
  have h5 := heap_setCell_same wr h m _ _ (.int .i64 (X m)) H.row
  rw [h5, rowX_more]
  have h6 := rowZ_set (zs := rowX X m) (n := n) (by rw [rowX_len]; exact hm) (X m)
  rw [rowX_len] at h6
  rw [← h6]
  simp
theorem LtW.cell {g : Nat} {a : Option Addr} {cap : Nat} {ns : List Nd} {k : Int} {X : Nat → Int} {n m h : Nat} {w wr : World} (H : LtW g a cap ns k X n m h w wr) (hm : m < n) : ∃ u, wr.cell? ⟨h, m, none⟩ = some u ∧ wr.frozen? ⟨h, m, none⟩ = false := by
  have hl : (rowZ (rowX X m) n).length = n := rowZ_len (by rw [rowX_len]; omega)
  refine ⟨(rowZ (rowX X m) n)[m]'(by rw [hl]; exact hm), ?_, frozen_of_row _ _ _ _ _ H.row⟩
  rw [cell_of_row wr _ m _ _ _ H.row]
  simp
theorem rowZ_full (zs : List Int) : rowZ zs zs.length = zs.map (Value.int .i64) := by unfold rowZ; simp
theorem LtW.full {g : Nat} {a : Option Addr} {cap : Nat} {ns : List Nd} {k : Int} {X : Nat → Int} {n h : Nat} {w wr : World} (H : LtW g a cap ns k X n n h w wr) : wr.heap[h]? = some (.cells ((rowX X n).map (Value.int .i64)).toArray 3 (0, 0)) := by
  have := H.row
  have e := rowZ_full (rowX X n)
  rw [rowX_len] at e
  rw [e] at this
  exact this
theorem LtW.first {g : Nat} {a : Option Addr} {cap : Nat} {ns : List Nd} {k : Int} {X : Nat → Int} {n h : Nat} {w wr : World} (H : LtW g a cap ns k X n n h w wr) (hn : 0 < n) : wr.cell? ⟨h, 0, none⟩ = some (.int .i64 (X 0)) := by
  rw [cell_of_row wr _ 0 _ _ _ H.full]
  obtain ⟨m, rfl⟩ : ∃ m, n = m + 1 := ⟨n - 1, by omega⟩
  simp [rowX, List.range_succ_eq_map]
/-- What is answered: a letter with its row. -/
def LtP (g : Nat) (kd : Int) (xs : List Int) (w : World) (e : Ending) (w' : World) : Prop := ∃ h, e = .returned (.agg #[.int .i64 kd, .slice (some ⟨h, 0, none⟩) xs.length xs.length]) ∧ w.heap.size ≤ h ∧ w'.heap[h]? = some (.cells (xs.map (Value.int .i64)).toArray 3 (0, 0)) ∧ w.grownBy w' (some g)
theorem LtW.fin {g : Nat} {a : Option Addr} {cap : Nat} {ns : List Nd} {k : Int} {X : Nat → Int} {n h : Nat} {w wr : World} (hlt : g < w.heap.size) (H : LtW g a cap ns k X n n h w wr) (u v : Value) :
    ((wr.setCell ⟨w.heap.size, 0, none⟩ u).setCell ⟨w.heap.size, 1, none⟩ v).heap[w.heap.size]? = some (.cells #[u, v] 83 (0, 0)) ∧ ((wr.setCell ⟨w.heap.size, 0, none⟩ u).setCell ⟨w.heap.size, 1, none⟩ v).heap[h]? = some (.cells ((rowX X n).map (Value.int .i64)).toArray 3 (0, 0)) ∧ w.grownBy ((wr.setCell ⟨w.heap.size, 0, none⟩ u).setCell ⟨w.heap.size, 1, none⟩ v) (some g) := by
  have hlo := H.lo
  have a0 := heap_setCell_same wr w.heap.size 0 _ _ u H.res
  have a1 := heap_setCell_same _ w.heap.size 1 _ _ v a0
  have hk : ∀ q, q ≠ w.heap.size → ((wr.setCell ⟨w.heap.size, 0, none⟩ u).setCell ⟨w.heap.size, 1, none⟩ v).heap[q]? = wr.heap[q]? := fun q hq => (Below.heap_setCell _ _ _ _ hq).trans (Below.heap_setCell _ _ _ _ hq)
  have hB : Below w.heap.size wr ((wr.setCell ⟨w.heap.size, 0, none⟩ u).setCell ⟨w.heap.size, 1, none⟩ v) := ((Below.refl _ wr).setCell (show w.heap.size ≤ (⟨w.heap.size, 0, none⟩ : Addr).block from Nat.le_refl _) _).setCell (show w.heap.size ≤ (⟨w.heap.size, 1, none⟩ : Addr).block from Nat.le_refl _) _
  exact ⟨a1.trans rfl, (hk h (by omega)).trans H.full, hB.os.trans H.grown.os, hB.tape.trans H.grown.tape, hB.output.trans H.grown.output, Nat.le_trans H.grown.size (by simp), fun q hq hn => (hk q (by omega)).trans (H.grown.block q hq hn)⟩
set_option maxHeartbeats 1600000 in
theorem partCount_any (kd : Int) (w : World) : Calls Try.prog 103 #[.int .i64 kd] w fun e w' => e = .returned (.int .i64 (mnyV kd)) ∧ w = w' := by
  by_cases h71 : kd = 71
  · subst h71
    have hm : mnyV 71 = 2 := rfl
    rw [hm]
    go_enter Try.func103, Try.ntmps103
    go_wp2
    go_ret
    exact ⟨rfl, rfl⟩
  by_cases h73 : kd = 73
  · subst h73
    have hm : mnyV 73 = 2 := rfl
    rw [hm]
    go_enter Try.func103, Try.ntmps103
    go_wp2
    go_ret
    exact ⟨rfl, rfl⟩
  by_cases h76 : kd = 76
  · subst h76
    have hm : mnyV 76 = 2 := rfl
    rw [hm]
    go_enter Try.func103, Try.ntmps103
    go_wp2
    go_ret
    exact ⟨rfl, rfl⟩
  by_cases h72 : kd = 72
  · subst h72
    have hm : mnyV 72 = 1 := rfl
    rw [hm]
    go_enter Try.func103, Try.ntmps103
    go_wp2
    go_ret
    exact ⟨rfl, rfl⟩
  by_cases h74 : kd = 74
  · subst h74
    have hm : mnyV 74 = 1 := rfl
    rw [hm]
    go_enter Try.func103, Try.ntmps103
    go_wp2
    go_ret
    exact ⟨rfl, rfl⟩
  by_cases h75 : kd = 75
  · subst h75
    have hm : mnyV 75 = 1 := rfl
    rw [hm]
    go_enter Try.func103, Try.ntmps103
    go_wp2
    go_ret
    exact ⟨rfl, rfl⟩
  have hm : mnyV kd = 0 := by unfold mnyV; simp [h71, h73, h76, h72, h74, h75]
  rw [hm]
  have b71 : (kd == 71) = false := by simpa using h71
  have b73 : (kd == 73) = false := by simpa using h73
  have b76 : (kd == 76) = false := by simpa using h76
  have b72 : (kd == 72) = false := by simpa using h72
  have b74 : (kd == 74) = false := by simpa using h74
  have b75 : (kd == 75) = false := by simpa using h75
  go_enter Try.func103, Try.ntmps103
  go_wp2
  go_ret
  exact ⟨rfl, rfl⟩
set_option maxHeartbeats 300000 in
set_option maxRecDepth 20000 in
theorem lt_f0 (g : Nat) (a : Option Addr) (cap : Nat) (ns : List Nd) (k kd : Int) (K X : Nat → Int) (n f : Nat) (w : World) (hs : Rd g a cap ns k w)
    (H0 : ∀ wz, Rd g a cap ns k wz → Calls Try.prog 93 #[.pointer (some ⟨g, 0, none⟩)] wz (RdN g wz)) :
    Calls Try.prog 70 #[.pointer (some ⟨g, 0, none⟩)] w (RdN g w) := by
  have hb0 : Below w.heap.size w (w.alloc (.cells #[.int .i64 0, .slice none 0 0] 83)) := (Below.refl _ _).alloc (Nat.le_refl _) _
  have hlt := hs.lt
  have HS0 : Hid (Rd g a cap ns k (w.alloc (.cells #[.int .i64 0, .slice none 0 0] 83)) ∧ w.grownBy (w.alloc (.cells #[.int .i64 0, .slice none 0 0] 83)) (some g) ∧ (w.alloc (.cells #[.int .i64 0, .slice none 0 0] 83)).heap[w.heap.size]? = some (.cells #[.int .i64 0, .slice none 0 0] 83 (0, 0))) := ⟨hs.below hb0, grw_below hb0, heap_alloc_new w _⟩
  have IH0 : Hid (∀ wz, Rd g a cap ns k wz → Calls Try.prog 93 #[.pointer (some ⟨g, 0, none⟩)] wz (RdN g wz)) := H0
  clear H0
  clear hs hb0
  go_enter Try.func70, Try.ntmps70
  go_wp2_with fail
  generalize w.alloc (.cells #[.int .i64 0, .slice none 0 0] 83) = w0 at HS0 ⊢
  refine Calls.mono (IH0.out _ HS0.out.1) ?_
  rintro e w1 ⟨rfl, hg⟩
  have HE : Hid (w.grownBy w1 (some g)) := grw_more HS0.out.2.1 hg
  clear hg HS0
  go_wp2
  exact ⟨rfl, rfl, HE.out⟩
set_option maxHeartbeats 300000 in
set_option maxRecDepth 20000 in
theorem lt_f1 (g : Nat) (a : Option Addr) (cap : Nat) (ns : List Nd) (k kd : Int) (K X : Nat → Int) (n f : Nat) (w : World) (hs : Rd g a cap ns k w)
    (H0 : ∀ wz, Rd g a cap ns k wz → Calls Try.prog 93 #[.pointer (some ⟨g, 0, none⟩)] wz (RdP g a cap ns (.int .i64 kd) (K 0) wz))
    (hm : mnyV kd = 0) :
    Calls Try.prog 70 #[.pointer (some ⟨g, 0, none⟩)] w (RdN g w) := by
  have hb0 : Below w.heap.size w (w.alloc (.cells #[.int .i64 0, .slice none 0 0] 83)) := (Below.refl _ _).alloc (Nat.le_refl _) _
  have hlt := hs.lt
  have HS0 : Hid (Rd g a cap ns k (w.alloc (.cells #[.int .i64 0, .slice none 0 0] 83)) ∧ w.grownBy (w.alloc (.cells #[.int .i64 0, .slice none 0 0] 83)) (some g) ∧ (w.alloc (.cells #[.int .i64 0, .slice none 0 0] 83)).heap[w.heap.size]? = some (.cells #[.int .i64 0, .slice none 0 0] 83 (0, 0))) := ⟨hs.below hb0, grw_below hb0, heap_alloc_new w _⟩
  have IH0 : Hid (∀ wz, Rd g a cap ns k wz → Calls Try.prog 93 #[.pointer (some ⟨g, 0, none⟩)] wz (RdP g a cap ns (.int .i64 kd) (K 0) wz)) := H0
  clear H0
  have HM : Hid (mnyV kd = 0) := hm
  clear hm
  obtain ⟨CI, HCI⟩ : ∃ c, Hid (madeCells #[.int .i64 0] 0 = c) := ⟨_, rfl⟩
  have mI : ∀ w : World, (Instr.makeSlice 41 (.int .i64 0) (.int .i64 0)).run Try.prog w = .ok (.slice (some ⟨w.heap.size, 0, none⟩) 0 0) (w.alloc (.cells CI 3)) := fun w => by
    rw [← HCI.out]; exact run_make_row' _ _ _ 8 Try.underlying41 infoIL rfl _ _ 0 (by omega) (by omega) w
  clear hs hb0
  go_enter Try.func70, Try.ntmps70
  go_wp2_with fail
  generalize w.alloc (.cells #[.int .i64 0, .slice none 0 0] 83) = w0 at HS0 ⊢
  refine Calls.mono (IH0.out _ HS0.out.1) ?_
  rintro e w1 ⟨rfl, hr, hg⟩
  have HS1 : Hid (Rd g a cap ns (K 0) w1 ∧ w.grownBy w1 (some g) ∧ w1.heap[w.heap.size]? = some (.cells #[.int .i64 0, .slice none 0 0] 83 (0, 0))) := ⟨hr, grw_more HS0.out.2.1 hg, (hg.block _ (Array.getElem?_eq_some_iff.1 HS0.out.2.2).1 (by simp; omega)).trans HS0.out.2.2⟩
  clear hr hg HS0
  go_wp2_with fail
  refine (partCount_any kd w1).mono ?_
  rintro e w2 ⟨rfl, rfl⟩
  rw [HM.out]
  have HE : Hid (w.grownBy (w1.alloc (.cells CI 3)) (some g)) := grw_more HS1.out.2.1 (grw_below ((Below.refl _ _).alloc (Nat.le_refl _) _))
  clear HS1
  go_wp2_with fail
  refine (want_no _ _).mono ?_
  rintro e w3 ⟨rfl, rfl⟩
  go_wp2
  exact ⟨rfl, rfl, HE.out⟩
set_option maxHeartbeats 300000 in
set_option maxRecDepth 20000 in
theorem lt_f2 (g : Nat) (a : Option Addr) (cap : Nat) (ns : List Nd) (k kd : Int) (K X : Nat → Int) (n f : Nat) (w : World) (hs : Rd g a cap ns k w)
    (H0 : ∀ wz, Rd g a cap ns k wz → Calls Try.prog 93 #[.pointer (some ⟨g, 0, none⟩)] wz (RdP g a cap ns (.int .i64 kd) (K 0) wz))
    (hm : mnyV kd = (n : Nat))
    (hn : 1 ≤ n ∧ n ≤ 2)
    (hfn : f < n)
    (HT : ∀ m, m < f → ∀ wz, Rd g a cap ns (K m) wz → Calls Try.prog 104 #[.pointer (some ⟨g, 0, none⟩)] wz (RdP g a cap ns (.int .i64 (X m)) (K (m + 1)) wz))
    (HF : ∀ wz, Rd g a cap ns (K f) wz → Calls Try.prog 104 #[.pointer (some ⟨g, 0, none⟩)] wz (RdN g wz)) :
    Calls Try.prog 70 #[.pointer (some ⟨g, 0, none⟩)] w (RdN g w) := by
  have hb0 : Below w.heap.size w (w.alloc (.cells #[.int .i64 0, .slice none 0 0] 83)) := (Below.refl _ _).alloc (Nat.le_refl _) _
  have hlt := hs.lt
  have HS0 : Hid (Rd g a cap ns k (w.alloc (.cells #[.int .i64 0, .slice none 0 0] 83)) ∧ w.grownBy (w.alloc (.cells #[.int .i64 0, .slice none 0 0] 83)) (some g) ∧ (w.alloc (.cells #[.int .i64 0, .slice none 0 0] 83)).heap[w.heap.size]? = some (.cells #[.int .i64 0, .slice none 0 0] 83 (0, 0))) := ⟨hs.below hb0, grw_below hb0, heap_alloc_new w _⟩
  have IH0 : Hid (∀ wz, Rd g a cap ns k wz → Calls Try.prog 93 #[.pointer (some ⟨g, 0, none⟩)] wz (RdP g a cap ns (.int .i64 kd) (K 0) wz)) := H0
  clear H0
  have IHT : Hid (∀ m, m < f → ∀ wz, Rd g a cap ns (K m) wz → Calls Try.prog 104 #[.pointer (some ⟨g, 0, none⟩)] wz (RdP g a cap ns (.int .i64 (X m)) (K (m + 1)) wz)) := HT
  clear HT
  have IHF : Hid (∀ wz, Rd g a cap ns (K f) wz → Calls Try.prog 104 #[.pointer (some ⟨g, 0, none⟩)] wz (RdN g wz)) := HF
  clear HF
  have HM : Hid (mnyV kd = (n : Nat)) := hm
  clear hm
  obtain ⟨CI, HCI⟩ : ∃ c, Hid (madeCells #[.int .i64 0] n = c) := ⟨_, rfl⟩
  have mI : ∀ w : World, (Instr.makeSlice 41 (.int .i64 (n : Int)) (.int .i64 (n : Int))).run Try.prog w = .ok (.slice (some ⟨w.heap.size, 0, none⟩) n n) (w.alloc (.cells CI 3)) := fun w => by
    rw [← HCI.out]; exact run_make_row' _ _ _ 8 Try.underlying41 infoIL rfl _ _ n (by omega) (by omega) w
  clear hs hb0
  go_enter Try.func70, Try.ntmps70
  go_wp2_with fail
  generalize w.alloc (.cells #[.int .i64 0, .slice none 0 0] 83) = w0 at HS0 ⊢
  refine Calls.mono (IH0.out _ HS0.out.1) ?_
  rintro e w1 ⟨rfl, hr, hg⟩
  have HS1 : Hid (Rd g a cap ns (K 0) w1 ∧ w.grownBy w1 (some g) ∧ w1.heap[w.heap.size]? = some (.cells #[.int .i64 0, .slice none 0 0] 83 (0, 0))) := ⟨hr, grw_more HS0.out.2.1 hg, (hg.block _ (Array.getElem?_eq_some_iff.1 HS0.out.2.2).1 (by simp; omega)).trans HS0.out.2.2⟩
  clear hr hg HS0
  go_wp2_with fail
  refine (partCount_any kd w1).mono ?_
  rintro e w2 ⟨rfl, rfl⟩
  rw [HM.out]
  have hbA : Below w1.heap.size w1 (w1.alloc (.cells CI 3)) := (Below.refl _ _).alloc (Nat.le_refl _) _
  have HL0 : Hid (LtW g a cap ns (K 0) X n 0 w1.heap.size w (w1.alloc (.cells CI 3))) := by
    have hz := (Array.getElem?_eq_some_iff.1 HS1.out.2.2).1
    refine ⟨HS1.out.1.below hbA, grw_more HS1.out.2.1 (grw_below hbA), (hbA.block _ hz).trans HS1.out.2.2, ?_, hz⟩
    rw [heap_alloc_new w1 (.cells CI 3), ← HCI.out]
    have e : (madeCells #[Value.int .i64 0] n) = (rowZ (rowX X 0) n).toArray := by
      apply Array.toList_inj.1
      rw [toList_madeCells_one]; unfold rowZ; simp [rowX]
    rw [e]
  have hn0 : (0 : Int) < (n : Int) := by omega
  clear HS1 hbA HCI
  go_wp2_with fail
  clear mI
  generalize w1.alloc (.cells CI 3) = w2 at HL0 ⊢
  generalize w1.heap.size = h at HL0 ⊢
  rw [show decide (0 < n) = true by simp; omega]
  refine (want_yes _ _).mono ?_
  rintro e w3 ⟨rfl, rfl⟩
  go_wp2
  go_loopw [18] (fun i wr => ∃ m : Nat, m ≤ n ∧ m ≤ f ∧ i = .int .i64 (m : Int) ∧ Hid (LtW g a cap ns (K m) X n m h w wr))
    (fun i _ => n - (intOf i).toNat)
  case atStart => exact ⟨0, by omega, by omega, rfl, HL0.out⟩
  case round =>
    obtain ⟨m, hm, hmf, rfl, HL⟩ := hrel
    clear HL0
    by_cases hf : m < f
    · have hi0 : (0 : Int) ≤ (m : Int) := by omega
      have hi1 : (m : Int) < (n : Int) := by omega
      go_wp2_with fail
      refine Calls.mono (IHT.out m hf _ HL.out.rd) ?_
      rintro e w4 ⟨rfl, hr, hg⟩
      have hL4 := HL.out.next hlt hr hg
      obtain ⟨u, hu, hz⟩ := hL4.cell (by omega)
      have HL5 : Hid (LtW g a cap ns (K (m + 1)) X n (m + 1) h w (w4.setCell ⟨h, m, none⟩ (.int .i64 (X m)))) := hL4.put hlt (by omega)
      clear hr hg hL4 HL
      go_wp2
      go_roundw
      case rel => exact ⟨m + 1, by omega, by omega, by go_num, HL5.out⟩
      case measure => simp [intOf] <;> omega
    · obtain rfl : m = f := by omega
      have hi1 : (m : Int) < (n : Int) := by omega
      go_wp2_with fail
      refine Calls.mono (IHF.out _ HL.out.rd) ?_
      rintro e w4 ⟨rfl, hg⟩
      have HE : Hid (w.grownBy w4 (some g)) := grw_more HL.out.grown hg
      clear hg HL
      go_wp2
      exact ⟨rfl, rfl, HE.out⟩
set_option maxHeartbeats 300000 in
set_option maxRecDepth 20000 in
theorem lt_f3 (g : Nat) (a : Option Addr) (cap : Nat) (ns : List Nd) (k kd : Int) (K X : Nat → Int) (n f : Nat) (w : World) (hs : Rd g a cap ns k w)
    (H0 : ∀ wz, Rd g a cap ns k wz → Calls Try.prog 93 #[.pointer (some ⟨g, 0, none⟩)] wz (RdP g a cap ns (.int .i64 kd) (K 0) wz))
    (hm : mnyV kd = (n : Nat))
    (hn : 1 ≤ n ∧ n ≤ 2)
    (HT : ∀ m, m < n → ∀ wz, Rd g a cap ns (K m) wz → Calls Try.prog 104 #[.pointer (some ⟨g, 0, none⟩)] wz (RdP g a cap ns (.int .i64 (X m)) (K (m + 1)) wz))
    (HE : ∀ wz, Rd g a cap ns (K n) wz → Calls Try.prog 98 #[.pointer (some ⟨g, 0, none⟩)] wz (RdN g wz)) :
    Calls Try.prog 70 #[.pointer (some ⟨g, 0, none⟩)] w (RdN g w) := by
  have hb0 : Below w.heap.size w (w.alloc (.cells #[.int .i64 0, .slice none 0 0] 83)) := (Below.refl _ _).alloc (Nat.le_refl _) _
  have hlt := hs.lt
  have HS0 : Hid (Rd g a cap ns k (w.alloc (.cells #[.int .i64 0, .slice none 0 0] 83)) ∧ w.grownBy (w.alloc (.cells #[.int .i64 0, .slice none 0 0] 83)) (some g) ∧ (w.alloc (.cells #[.int .i64 0, .slice none 0 0] 83)).heap[w.heap.size]? = some (.cells #[.int .i64 0, .slice none 0 0] 83 (0, 0))) := ⟨hs.below hb0, grw_below hb0, heap_alloc_new w _⟩
  have IH0 : Hid (∀ wz, Rd g a cap ns k wz → Calls Try.prog 93 #[.pointer (some ⟨g, 0, none⟩)] wz (RdP g a cap ns (.int .i64 kd) (K 0) wz)) := H0
  clear H0
  have IHT : Hid (∀ m, m < n → ∀ wz, Rd g a cap ns (K m) wz → Calls Try.prog 104 #[.pointer (some ⟨g, 0, none⟩)] wz (RdP g a cap ns (.int .i64 (X m)) (K (m + 1)) wz)) := HT
  clear HT
  have IHE : Hid (∀ wz, Rd g a cap ns (K n) wz → Calls Try.prog 98 #[.pointer (some ⟨g, 0, none⟩)] wz (RdN g wz)) := HE
  clear HE
  have HM : Hid (mnyV kd = (n : Nat)) := hm
  clear hm
  obtain ⟨CI, HCI⟩ : ∃ c, Hid (madeCells #[.int .i64 0] n = c) := ⟨_, rfl⟩
  have mI : ∀ w : World, (Instr.makeSlice 41 (.int .i64 (n : Int)) (.int .i64 (n : Int))).run Try.prog w = .ok (.slice (some ⟨w.heap.size, 0, none⟩) n n) (w.alloc (.cells CI 3)) := fun w => by
    rw [← HCI.out]; exact run_make_row' _ _ _ 8 Try.underlying41 infoIL rfl _ _ n (by omega) (by omega) w
  clear hs hb0
  go_enter Try.func70, Try.ntmps70
  go_wp2_with fail
  generalize w.alloc (.cells #[.int .i64 0, .slice none 0 0] 83) = w0 at HS0 ⊢
  refine Calls.mono (IH0.out _ HS0.out.1) ?_
  rintro e w1 ⟨rfl, hr, hg⟩
  have HS1 : Hid (Rd g a cap ns (K 0) w1 ∧ w.grownBy w1 (some g) ∧ w1.heap[w.heap.size]? = some (.cells #[.int .i64 0, .slice none 0 0] 83 (0, 0))) := ⟨hr, grw_more HS0.out.2.1 hg, (hg.block _ (Array.getElem?_eq_some_iff.1 HS0.out.2.2).1 (by simp; omega)).trans HS0.out.2.2⟩
  clear hr hg HS0
  go_wp2_with fail
  refine (partCount_any kd w1).mono ?_
  rintro e w2 ⟨rfl, rfl⟩
  rw [HM.out]
  have hbA : Below w1.heap.size w1 (w1.alloc (.cells CI 3)) := (Below.refl _ _).alloc (Nat.le_refl _) _
  have HL0 : Hid (LtW g a cap ns (K 0) X n 0 w1.heap.size w (w1.alloc (.cells CI 3))) := by
    have hz := (Array.getElem?_eq_some_iff.1 HS1.out.2.2).1
    refine ⟨HS1.out.1.below hbA, grw_more HS1.out.2.1 (grw_below hbA), (hbA.block _ hz).trans HS1.out.2.2, ?_, hz⟩
    rw [heap_alloc_new w1 (.cells CI 3), ← HCI.out]
    have e : (madeCells #[Value.int .i64 0] n) = (rowZ (rowX X 0) n).toArray := by
      apply Array.toList_inj.1
      rw [toList_madeCells_one]; unfold rowZ; simp [rowX]
    rw [e]
  have hn0 : (0 : Int) < (n : Int) := by omega
  clear HS1 hbA HCI
  go_wp2_with fail
  clear mI
  generalize w1.alloc (.cells CI 3) = w2 at HL0 ⊢
  generalize w1.heap.size = h at HL0 ⊢
  rw [show decide (0 < n) = true by simp; omega]
  refine (want_yes _ _).mono ?_
  rintro e w3 ⟨rfl, rfl⟩
  go_wp2
  go_loopw [18] (fun i wr => ∃ m : Nat, m ≤ n ∧ i = .int .i64 (m : Int) ∧ Hid (LtW g a cap ns (K m) X n m h w wr))
    (fun i _ => n - (intOf i).toNat)
  case atStart => exact ⟨0, by omega, rfl, HL0.out⟩
  case round =>
    obtain ⟨m, hm, rfl, HL⟩ := hrel
    clear HL0
    by_cases hd : m < n
    · have hi0 : (0 : Int) ≤ (m : Int) := by omega
      have hi1 : (m : Int) < (n : Int) := by omega
      go_wp2_with fail
      refine Calls.mono (IHT.out m hd _ HL.out.rd) ?_
      rintro e w4 ⟨rfl, hr, hg⟩
      have hL4 := HL.out.next hlt hr hg
      obtain ⟨u, hu, hz⟩ := hL4.cell (by omega)
      have HL5 : Hid (LtW g a cap ns (K (m + 1)) X n (m + 1) h w (w4.setCell ⟨h, m, none⟩ (.int .i64 (X m)))) := hL4.put hlt (by omega)
      clear hr hg hL4 HL
      go_wp2
      go_roundw
      case rel => exact ⟨m + 1, by omega, by go_num, HL5.out⟩
      case measure => simp [intOf] <;> omega
    · obtain rfl : m = n := by omega
      go_wp2_with fail
      refine Calls.mono (IHE.out _ HL.out.rd) ?_
      rintro e w4 ⟨rfl, hg⟩
      have HE : Hid (w.grownBy w4 (some g)) := grw_more HL.out.grown hg
      clear hg HL
      go_wp2
      exact ⟨rfl, rfl, HE.out⟩
set_option maxHeartbeats 300000 in
set_option maxRecDepth 20000 in
theorem lt_f4 (g : Nat) (a : Option Addr) (cap : Nat) (ns : List Nd) (k kd : Int) (K X : Nat → Int) (n f : Nat) (w : World) (hs : Rd g a cap ns k w)
    (H0 : ∀ wz, Rd g a cap ns k wz → Calls Try.prog 93 #[.pointer (some ⟨g, 0, none⟩)] wz (RdP g a cap ns (.int .i64 kd) (K 0) wz))
    (hm : mnyV kd = (n : Nat))
    (hn : 1 ≤ n ∧ n ≤ 2)
    (HT : ∀ m, m < n → ∀ wz, Rd g a cap ns (K m) wz → Calls Try.prog 104 #[.pointer (some ⟨g, 0, none⟩)] wz (RdP g a cap ns (.int .i64 (X m)) (K (m + 1)) wz))
    (HE : ∀ wz, Rd g a cap ns (K n) wz → Calls Try.prog 98 #[.pointer (some ⟨g, 0, none⟩)] wz (RdP g a cap ns (.tuple #[]) (K n) wz))
    (h76 : (kd == 76) = true)
    (HA : ∀ wz, Rd g a cap ns (K n) wz → Calls Try.prog 105 #[.pointer (some ⟨g, 0, none⟩), .int .i64 (X 0)] wz fun e w' => e = notP ∧ Below wz.heap.size wz w') :
    Calls Try.prog 70 #[.pointer (some ⟨g, 0, none⟩)] w (RdN g w) := by
  have hb0 : Below w.heap.size w (w.alloc (.cells #[.int .i64 0, .slice none 0 0] 83)) := (Below.refl _ _).alloc (Nat.le_refl _) _
  have hlt := hs.lt
  have HS0 : Hid (Rd g a cap ns k (w.alloc (.cells #[.int .i64 0, .slice none 0 0] 83)) ∧ w.grownBy (w.alloc (.cells #[.int .i64 0, .slice none 0 0] 83)) (some g) ∧ (w.alloc (.cells #[.int .i64 0, .slice none 0 0] 83)).heap[w.heap.size]? = some (.cells #[.int .i64 0, .slice none 0 0] 83 (0, 0))) := ⟨hs.below hb0, grw_below hb0, heap_alloc_new w _⟩
  have IH0 : Hid (∀ wz, Rd g a cap ns k wz → Calls Try.prog 93 #[.pointer (some ⟨g, 0, none⟩)] wz (RdP g a cap ns (.int .i64 kd) (K 0) wz)) := H0
  clear H0
  have IHT : Hid (∀ m, m < n → ∀ wz, Rd g a cap ns (K m) wz → Calls Try.prog 104 #[.pointer (some ⟨g, 0, none⟩)] wz (RdP g a cap ns (.int .i64 (X m)) (K (m + 1)) wz)) := HT
  clear HT
  have IHE : Hid (∀ wz, Rd g a cap ns (K n) wz → Calls Try.prog 98 #[.pointer (some ⟨g, 0, none⟩)] wz (RdP g a cap ns (.tuple #[]) (K n) wz)) := HE
  clear HE
  have IHA : Hid (∀ wz, Rd g a cap ns (K n) wz → Calls Try.prog 105 #[.pointer (some ⟨g, 0, none⟩), .int .i64 (X 0)] wz fun e w' => e = notP ∧ Below wz.heap.size wz w') := HA
  clear HA
  have HM : Hid (mnyV kd = (n : Nat)) := hm
  clear hm
  obtain ⟨CI, HCI⟩ : ∃ c, Hid (madeCells #[.int .i64 0] n = c) := ⟨_, rfl⟩
  have mI : ∀ w : World, (Instr.makeSlice 41 (.int .i64 (n : Int)) (.int .i64 (n : Int))).run Try.prog w = .ok (.slice (some ⟨w.heap.size, 0, none⟩) n n) (w.alloc (.cells CI 3)) := fun w => by
    rw [← HCI.out]; exact run_make_row' _ _ _ 8 Try.underlying41 infoIL rfl _ _ n (by omega) (by omega) w
  clear hs hb0
  go_enter Try.func70, Try.ntmps70
  go_wp2_with fail
  generalize w.alloc (.cells #[.int .i64 0, .slice none 0 0] 83) = w0 at HS0 ⊢
  refine Calls.mono (IH0.out _ HS0.out.1) ?_
  rintro e w1 ⟨rfl, hr, hg⟩
  have HS1 : Hid (Rd g a cap ns (K 0) w1 ∧ w.grownBy w1 (some g) ∧ w1.heap[w.heap.size]? = some (.cells #[.int .i64 0, .slice none 0 0] 83 (0, 0))) := ⟨hr, grw_more HS0.out.2.1 hg, (hg.block _ (Array.getElem?_eq_some_iff.1 HS0.out.2.2).1 (by simp; omega)).trans HS0.out.2.2⟩
  clear hr hg HS0
  go_wp2_with fail
  refine (partCount_any kd w1).mono ?_
  rintro e w2 ⟨rfl, rfl⟩
  rw [HM.out]
  have hbA : Below w1.heap.size w1 (w1.alloc (.cells CI 3)) := (Below.refl _ _).alloc (Nat.le_refl _) _
  have HL0 : Hid (LtW g a cap ns (K 0) X n 0 w1.heap.size w (w1.alloc (.cells CI 3))) := by
    have hz := (Array.getElem?_eq_some_iff.1 HS1.out.2.2).1
    refine ⟨HS1.out.1.below hbA, grw_more HS1.out.2.1 (grw_below hbA), (hbA.block _ hz).trans HS1.out.2.2, ?_, hz⟩
    rw [heap_alloc_new w1 (.cells CI 3), ← HCI.out]
    have e : (madeCells #[Value.int .i64 0] n) = (rowZ (rowX X 0) n).toArray := by
      apply Array.toList_inj.1
      rw [toList_madeCells_one]; unfold rowZ; simp [rowX]
    rw [e]
  have hn0 : (0 : Int) < (n : Int) := by omega
  clear HS1 hbA HCI
  go_wp2_with fail
  clear mI
  generalize w1.alloc (.cells CI 3) = w2 at HL0 ⊢
  generalize w1.heap.size = h at HL0 ⊢
  rw [show decide (0 < n) = true by simp; omega]
  refine (want_yes _ _).mono ?_
  rintro e w3 ⟨rfl, rfl⟩
  go_wp2
  go_loopw [18] (fun i wr => ∃ m : Nat, m ≤ n ∧ i = .int .i64 (m : Int) ∧ Hid (LtW g a cap ns (K m) X n m h w wr))
    (fun i _ => n - (intOf i).toNat)
  case atStart => exact ⟨0, by omega, rfl, HL0.out⟩
  case round =>
    obtain ⟨m, hm, rfl, HL⟩ := hrel
    clear HL0
    by_cases hd : m < n
    · have hi0 : (0 : Int) ≤ (m : Int) := by omega
      have hi1 : (m : Int) < (n : Int) := by omega
      go_wp2_with fail
      refine Calls.mono (IHT.out m hd _ HL.out.rd) ?_
      rintro e w4 ⟨rfl, hr, hg⟩
      have hL4 := HL.out.next hlt hr hg
      obtain ⟨u, hu, hz⟩ := hL4.cell (by omega)
      have HL5 : Hid (LtW g a cap ns (K (m + 1)) X n (m + 1) h w (w4.setCell ⟨h, m, none⟩ (.int .i64 (X m)))) := hL4.put hlt (by omega)
      clear hr hg hL4 HL
      go_wp2
      go_roundw
      case rel => exact ⟨m + 1, by omega, by go_num, HL5.out⟩
      case measure => simp [intOf] <;> omega
    · obtain rfl : m = n := by omega
      go_wp2_with fail
      refine Calls.mono (IHE.out _ HL.out.rd) ?_
      rintro e w4 ⟨rfl, hr, hg⟩
      have HL4 : Hid (LtW g a cap ns (K m) X m m h w w4) := HL.out.next hlt hr hg
      clear hr hg HL
      have cF := HL4.out.first (by omega)
      go_wp2_with fail
      refine Calls.mono (IHA.out _ HL4.out.rd) ?_
      rintro e w5 ⟨rfl, hb⟩
      have HE : Hid (w.grownBy w5 (some g)) := grw_more HL4.out.grown (grw_below hb)
      clear hb HL4 cF
      go_wp2
      exact ⟨rfl, rfl, HE.out⟩
set_option maxHeartbeats 300000 in
set_option maxRecDepth 20000 in
theorem lt_ok76 (g : Nat) (a : Option Addr) (cap : Nat) (ns : List Nd) (k kd : Int) (K X : Nat → Int) (n f : Nat) (w : World) (hs : Rd g a cap ns k w)
    (H0 : ∀ wz, Rd g a cap ns k wz → Calls Try.prog 93 #[.pointer (some ⟨g, 0, none⟩)] wz (RdP g a cap ns (.int .i64 kd) (K 0) wz))
    (hm : mnyV kd = (n : Nat))
    (hn : 1 ≤ n ∧ n ≤ 2)
    (HT : ∀ m, m < n → ∀ wz, Rd g a cap ns (K m) wz → Calls Try.prog 104 #[.pointer (some ⟨g, 0, none⟩)] wz (RdP g a cap ns (.int .i64 (X m)) (K (m + 1)) wz))
    (HE : ∀ wz, Rd g a cap ns (K n) wz → Calls Try.prog 98 #[.pointer (some ⟨g, 0, none⟩)] wz (RdP g a cap ns (.tuple #[]) (K n) wz))
    (h76 : (kd == 76) = true)
    (HA : ∀ wz, Rd g a cap ns (K n) wz → Calls Try.prog 105 #[.pointer (some ⟨g, 0, none⟩), .int .i64 (X 0)] wz fun e w' => e = .returned (.int .i64 (numV ns (X 0))) ∧ Below wz.heap.size wz w') :
    Calls Try.prog 70 #[.pointer (some ⟨g, 0, none⟩)] w (LtP g kd (rowX X n) w) := by
  have hb0 : Below w.heap.size w (w.alloc (.cells #[.int .i64 0, .slice none 0 0] 83)) := (Below.refl _ _).alloc (Nat.le_refl _) _
  have hlt := hs.lt
  have HS0 : Hid (Rd g a cap ns k (w.alloc (.cells #[.int .i64 0, .slice none 0 0] 83)) ∧ w.grownBy (w.alloc (.cells #[.int .i64 0, .slice none 0 0] 83)) (some g) ∧ (w.alloc (.cells #[.int .i64 0, .slice none 0 0] 83)).heap[w.heap.size]? = some (.cells #[.int .i64 0, .slice none 0 0] 83 (0, 0))) := ⟨hs.below hb0, grw_below hb0, heap_alloc_new w _⟩
  have IH0 : Hid (∀ wz, Rd g a cap ns k wz → Calls Try.prog 93 #[.pointer (some ⟨g, 0, none⟩)] wz (RdP g a cap ns (.int .i64 kd) (K 0) wz)) := H0
  clear H0
  have IHT : Hid (∀ m, m < n → ∀ wz, Rd g a cap ns (K m) wz → Calls Try.prog 104 #[.pointer (some ⟨g, 0, none⟩)] wz (RdP g a cap ns (.int .i64 (X m)) (K (m + 1)) wz)) := HT
  clear HT
  have IHE : Hid (∀ wz, Rd g a cap ns (K n) wz → Calls Try.prog 98 #[.pointer (some ⟨g, 0, none⟩)] wz (RdP g a cap ns (.tuple #[]) (K n) wz)) := HE
  clear HE
  have IHA : Hid (∀ wz, Rd g a cap ns (K n) wz → Calls Try.prog 105 #[.pointer (some ⟨g, 0, none⟩), .int .i64 (X 0)] wz fun e w' => e = .returned (.int .i64 (numV ns (X 0))) ∧ Below wz.heap.size wz w') := HA
  clear HA
  have HM : Hid (mnyV kd = (n : Nat)) := hm
  clear hm
  obtain ⟨CI, HCI⟩ : ∃ c, Hid (madeCells #[.int .i64 0] n = c) := ⟨_, rfl⟩
  have mI : ∀ w : World, (Instr.makeSlice 41 (.int .i64 (n : Int)) (.int .i64 (n : Int))).run Try.prog w = .ok (.slice (some ⟨w.heap.size, 0, none⟩) n n) (w.alloc (.cells CI 3)) := fun w => by
    rw [← HCI.out]; exact run_make_row' _ _ _ 8 Try.underlying41 infoIL rfl _ _ n (by omega) (by omega) w
  clear hs hb0
  go_enter Try.func70, Try.ntmps70
  go_wp2_with fail
  generalize w.alloc (.cells #[.int .i64 0, .slice none 0 0] 83) = w0 at HS0 ⊢
  refine Calls.mono (IH0.out _ HS0.out.1) ?_
  rintro e w1 ⟨rfl, hr, hg⟩
  have HS1 : Hid (Rd g a cap ns (K 0) w1 ∧ w.grownBy w1 (some g) ∧ w1.heap[w.heap.size]? = some (.cells #[.int .i64 0, .slice none 0 0] 83 (0, 0))) := ⟨hr, grw_more HS0.out.2.1 hg, (hg.block _ (Array.getElem?_eq_some_iff.1 HS0.out.2.2).1 (by simp; omega)).trans HS0.out.2.2⟩
  clear hr hg HS0
  go_wp2_with fail
  refine (partCount_any kd w1).mono ?_
  rintro e w2 ⟨rfl, rfl⟩
  rw [HM.out]
  have hbA : Below w1.heap.size w1 (w1.alloc (.cells CI 3)) := (Below.refl _ _).alloc (Nat.le_refl _) _
  have HL0 : Hid (LtW g a cap ns (K 0) X n 0 w1.heap.size w (w1.alloc (.cells CI 3))) := by
    have hz := (Array.getElem?_eq_some_iff.1 HS1.out.2.2).1
    refine ⟨HS1.out.1.below hbA, grw_more HS1.out.2.1 (grw_below hbA), (hbA.block _ hz).trans HS1.out.2.2, ?_, hz⟩
    rw [heap_alloc_new w1 (.cells CI 3), ← HCI.out]
    have e : (madeCells #[Value.int .i64 0] n) = (rowZ (rowX X 0) n).toArray := by
      apply Array.toList_inj.1
      rw [toList_madeCells_one]; unfold rowZ; simp [rowX]
    rw [e]
  have hn0 : (0 : Int) < (n : Int) := by omega
  clear HS1 hbA HCI
  go_wp2_with fail
  clear mI
  generalize w1.alloc (.cells CI 3) = w2 at HL0 ⊢
  generalize w1.heap.size = h at HL0 ⊢
  rw [show decide (0 < n) = true by simp; omega]
  refine (want_yes _ _).mono ?_
  rintro e w3 ⟨rfl, rfl⟩
  go_wp2
  go_loopw [18] (fun i wr => ∃ m : Nat, m ≤ n ∧ i = .int .i64 (m : Int) ∧ Hid (LtW g a cap ns (K m) X n m h w wr))
    (fun i _ => n - (intOf i).toNat)
  case atStart => exact ⟨0, by omega, rfl, HL0.out⟩
  case round =>
    obtain ⟨m, hm, rfl, HL⟩ := hrel
    clear HL0
    by_cases hd : m < n
    · have hi0 : (0 : Int) ≤ (m : Int) := by omega
      have hi1 : (m : Int) < (n : Int) := by omega
      go_wp2_with fail
      refine Calls.mono (IHT.out m hd _ HL.out.rd) ?_
      rintro e w4 ⟨rfl, hr, hg⟩
      have hL4 := HL.out.next hlt hr hg
      obtain ⟨u, hu, hz⟩ := hL4.cell (by omega)
      have HL5 : Hid (LtW g a cap ns (K (m + 1)) X n (m + 1) h w (w4.setCell ⟨h, m, none⟩ (.int .i64 (X m)))) := hL4.put hlt (by omega)
      clear hr hg hL4 HL
      go_wp2
      go_roundw
      case rel => exact ⟨m + 1, by omega, by go_num, HL5.out⟩
      case measure => simp [intOf] <;> omega
    · obtain rfl : m = n := by omega
      go_wp2_with fail
      refine Calls.mono (IHE.out _ HL.out.rd) ?_
      rintro e w4 ⟨rfl, hr, hg⟩
      have HL4 : Hid (LtW g a cap ns (K m) X m m h w w4) := HL.out.next hlt hr hg
      clear hr hg HL
      have cF := HL4.out.first (by omega)
      go_wp2_with fail
      refine Calls.mono (IHA.out _ HL4.out.rd) ?_
      rintro e w5 ⟨rfl, hb⟩
      have HL5 : Hid (LtW g a cap ns (K m) X m m h w w5) := HL4.out.next hlt (HL4.out.rd.below hb) (grw_below hb)
      clear hb HL4 cF
      have e0 : w5.cell? ⟨w.heap.size, 0, none⟩ = some (.int .i64 0) := (cell_of_row _ _ 0 _ _ _ HL5.out.res).trans rfl
      have e1 : w5.cell? ⟨w.heap.size, 1, none⟩ = some (.slice none 0 0) := (cell_of_row _ _ 1 _ _ _ HL5.out.res).trans rfl
      have f0 : w5.frozen? ⟨w.heap.size, 0, none⟩ = false := frozen_of_row _ _ 0 _ _ HL5.out.res
      have f1 : w5.frozen? ⟨w.heap.size, 1, none⟩ = false := frozen_of_row _ _ 1 _ _ HL5.out.res
      have HF : Hid _ := LtW.fin hlt HL5.out (.int .i64 kd) (.slice (some ⟨h, 0, none⟩) m m)
      have HLO : Hid (w.heap.size ≤ h) := Nat.le_of_lt HL5.out.lo
      clear HL5
      go_wp2
      refine bodyPost_ret (results_cell_row rfl _ _ w.heap.size 83 #[.int .i64 kd, .slice (some ⟨h, 0, none⟩) m m] (0, 0) _ rfl ?_ Try.underlying83 rfl ltSize11) rfl ?_
      · exact HF.out.1
      · exact ⟨h, by rw [rowX_len], HLO.out, HF.out.2.1, HF.out.2.2⟩
set_option maxHeartbeats 300000 in
set_option maxRecDepth 20000 in
theorem lt_ok (g : Nat) (a : Option Addr) (cap : Nat) (ns : List Nd) (k kd : Int) (K X : Nat → Int) (n f : Nat) (w : World) (hs : Rd g a cap ns k w)
    (H0 : ∀ wz, Rd g a cap ns k wz → Calls Try.prog 93 #[.pointer (some ⟨g, 0, none⟩)] wz (RdP g a cap ns (.int .i64 kd) (K 0) wz))
    (hm : mnyV kd = (n : Nat))
    (hn : 1 ≤ n ∧ n ≤ 2)
    (HT : ∀ m, m < n → ∀ wz, Rd g a cap ns (K m) wz → Calls Try.prog 104 #[.pointer (some ⟨g, 0, none⟩)] wz (RdP g a cap ns (.int .i64 (X m)) (K (m + 1)) wz))
    (HE : ∀ wz, Rd g a cap ns (K n) wz → Calls Try.prog 98 #[.pointer (some ⟨g, 0, none⟩)] wz (RdP g a cap ns (.tuple #[]) (K n) wz))
    (h76 : (kd == 76) = false) :
    Calls Try.prog 70 #[.pointer (some ⟨g, 0, none⟩)] w (LtP g kd (rowX X n) w) := by
  have hb0 : Below w.heap.size w (w.alloc (.cells #[.int .i64 0, .slice none 0 0] 83)) := (Below.refl _ _).alloc (Nat.le_refl _) _
  have hlt := hs.lt
  have HS0 : Hid (Rd g a cap ns k (w.alloc (.cells #[.int .i64 0, .slice none 0 0] 83)) ∧ w.grownBy (w.alloc (.cells #[.int .i64 0, .slice none 0 0] 83)) (some g) ∧ (w.alloc (.cells #[.int .i64 0, .slice none 0 0] 83)).heap[w.heap.size]? = some (.cells #[.int .i64 0, .slice none 0 0] 83 (0, 0))) := ⟨hs.below hb0, grw_below hb0, heap_alloc_new w _⟩
  have IH0 : Hid (∀ wz, Rd g a cap ns k wz → Calls Try.prog 93 #[.pointer (some ⟨g, 0, none⟩)] wz (RdP g a cap ns (.int .i64 kd) (K 0) wz)) := H0
  clear H0
  have IHT : Hid (∀ m, m < n → ∀ wz, Rd g a cap ns (K m) wz → Calls Try.prog 104 #[.pointer (some ⟨g, 0, none⟩)] wz (RdP g a cap ns (.int .i64 (X m)) (K (m + 1)) wz)) := HT
  clear HT
  have IHE : Hid (∀ wz, Rd g a cap ns (K n) wz → Calls Try.prog 98 #[.pointer (some ⟨g, 0, none⟩)] wz (RdP g a cap ns (.tuple #[]) (K n) wz)) := HE
  clear HE
  have HM : Hid (mnyV kd = (n : Nat)) := hm
  clear hm
  obtain ⟨CI, HCI⟩ : ∃ c, Hid (madeCells #[.int .i64 0] n = c) := ⟨_, rfl⟩
  have mI : ∀ w : World, (Instr.makeSlice 41 (.int .i64 (n : Int)) (.int .i64 (n : Int))).run Try.prog w = .ok (.slice (some ⟨w.heap.size, 0, none⟩) n n) (w.alloc (.cells CI 3)) := fun w => by
    rw [← HCI.out]; exact run_make_row' _ _ _ 8 Try.underlying41 infoIL rfl _ _ n (by omega) (by omega) w
  clear hs hb0
  go_enter Try.func70, Try.ntmps70
  go_wp2_with fail
  generalize w.alloc (.cells #[.int .i64 0, .slice none 0 0] 83) = w0 at HS0 ⊢
  refine Calls.mono (IH0.out _ HS0.out.1) ?_
  rintro e w1 ⟨rfl, hr, hg⟩
  have HS1 : Hid (Rd g a cap ns (K 0) w1 ∧ w.grownBy w1 (some g) ∧ w1.heap[w.heap.size]? = some (.cells #[.int .i64 0, .slice none 0 0] 83 (0, 0))) := ⟨hr, grw_more HS0.out.2.1 hg, (hg.block _ (Array.getElem?_eq_some_iff.1 HS0.out.2.2).1 (by simp; omega)).trans HS0.out.2.2⟩
  clear hr hg HS0
  go_wp2_with fail
  refine (partCount_any kd w1).mono ?_
  rintro e w2 ⟨rfl, rfl⟩
  rw [HM.out]
  have hbA : Below w1.heap.size w1 (w1.alloc (.cells CI 3)) := (Below.refl _ _).alloc (Nat.le_refl _) _
  have HL0 : Hid (LtW g a cap ns (K 0) X n 0 w1.heap.size w (w1.alloc (.cells CI 3))) := by
    have hz := (Array.getElem?_eq_some_iff.1 HS1.out.2.2).1
    refine ⟨HS1.out.1.below hbA, grw_more HS1.out.2.1 (grw_below hbA), (hbA.block _ hz).trans HS1.out.2.2, ?_, hz⟩
    rw [heap_alloc_new w1 (.cells CI 3), ← HCI.out]
    have e : (madeCells #[Value.int .i64 0] n) = (rowZ (rowX X 0) n).toArray := by
      apply Array.toList_inj.1
      rw [toList_madeCells_one]; unfold rowZ; simp [rowX]
    rw [e]
  have hn0 : (0 : Int) < (n : Int) := by omega
  clear HS1 hbA HCI
  go_wp2_with fail
  clear mI
  generalize w1.alloc (.cells CI 3) = w2 at HL0 ⊢
  generalize w1.heap.size = h at HL0 ⊢
  rw [show decide (0 < n) = true by simp; omega]
  refine (want_yes _ _).mono ?_
  rintro e w3 ⟨rfl, rfl⟩
  go_wp2
  go_loopw [18] (fun i wr => ∃ m : Nat, m ≤ n ∧ i = .int .i64 (m : Int) ∧ Hid (LtW g a cap ns (K m) X n m h w wr))
    (fun i _ => n - (intOf i).toNat)
  case atStart => exact ⟨0, by omega, rfl, HL0.out⟩
  case round =>
    obtain ⟨m, hm, rfl, HL⟩ := hrel
    clear HL0
    by_cases hd : m < n
    · have hi0 : (0 : Int) ≤ (m : Int) := by omega
      have hi1 : (m : Int) < (n : Int) := by omega
      go_wp2_with fail
      refine Calls.mono (IHT.out m hd _ HL.out.rd) ?_
      rintro e w4 ⟨rfl, hr, hg⟩
      have hL4 := HL.out.next hlt hr hg
      obtain ⟨u, hu, hz⟩ := hL4.cell (by omega)
      have HL5 : Hid (LtW g a cap ns (K (m + 1)) X n (m + 1) h w (w4.setCell ⟨h, m, none⟩ (.int .i64 (X m)))) := hL4.put hlt (by omega)
      clear hr hg hL4 HL
      go_wp2
      go_roundw
      case rel => exact ⟨m + 1, by omega, by go_num, HL5.out⟩
      case measure => simp [intOf] <;> omega
    · obtain rfl : m = n := by omega
      go_wp2_with fail
      refine Calls.mono (IHE.out _ HL.out.rd) ?_
      rintro e w4 ⟨rfl, hr, hg⟩
      have HL4 : Hid (LtW g a cap ns (K m) X m m h w w4) := HL.out.next hlt hr hg
      clear hr hg HL
      have e0 : w4.cell? ⟨w.heap.size, 0, none⟩ = some (.int .i64 0) := (cell_of_row _ _ 0 _ _ _ HL4.out.res).trans rfl
      have e1 : w4.cell? ⟨w.heap.size, 1, none⟩ = some (.slice none 0 0) := (cell_of_row _ _ 1 _ _ _ HL4.out.res).trans rfl
      have f0 : w4.frozen? ⟨w.heap.size, 0, none⟩ = false := frozen_of_row _ _ 0 _ _ HL4.out.res
      have f1 : w4.frozen? ⟨w.heap.size, 1, none⟩ = false := frozen_of_row _ _ 1 _ _ HL4.out.res
      have HF : Hid _ := LtW.fin hlt HL4.out (.int .i64 kd) (.slice (some ⟨h, 0, none⟩) m m)
      have HLO : Hid (w.heap.size ≤ h) := Nat.le_of_lt HL4.out.lo
      clear HL4
      go_wp2
      refine bodyPost_ret (results_cell_row rfl _ _ w.heap.size 83 #[.int .i64 kd, .slice (some ⟨h, 0, none⟩) m m] (0, 0) _ rfl ?_ Try.underlying83 rfl ltSize11) rfl ?_
      · exact HF.out.1
      · exact ⟨h, by rw [rowX_len], HLO.out, HF.out.2.1, HF.out.2.2⟩
end Go.Proofs.Ytlecpjgeaigjkaa
