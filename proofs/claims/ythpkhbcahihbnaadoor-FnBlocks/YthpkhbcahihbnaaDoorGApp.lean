/- A byte appended to a row that a conversion of a text made: what is frozen lies behind the row's end. -/
import Derived.Test.YthpkhbcahihbnaaDoorRowC
import Derived.Laws.AppendOwn
import Derived.Below
import Derived.Tactics
import Derived.Maps.AppendAt
import Derived.WideShapes
namespace Go.Proofs.YthpkhbcahihbnaaDoor
open Go.RowKit Go.PlainAid
set_option linter.unusedVariables false
set_option linter.unusedSimpArgs false
/-- The slice v holds the text's bytes in a row of its own, from block B on. -/
def GOwn (w : World) (B : Nat) (v : Value) (T : ByteArray) : Prop :=
  ∃ g cap cur fz, v = .slice (some ⟨g, 0, none⟩) T.size cap ∧ B ≤ g ∧ w.heap[g]? = some (.cells cur 5 fz) ∧ (fz.2 = 0 ∨ cap ≤ fz.1) ∧ T.size ≤ cap ∧ cap ≤ maxLen ∧ cur.size = cap ∧ cur.toList.take T.size = Lib.strCells T
/-- One byte. -/
def oneB (x : Nat) : ByteArray := strOfNums [((x : Nat) : Int)]
theorem oneB_size (x : Nat) : (oneB x).size = 1 := by unfold oneB; rw [strOfNums_size]; rfl
theorem cells_app (a b : ByteArray) : Lib.strCells (a ++ b) = Lib.strCells a ++ Lib.strCells b := by
  unfold Lib.strCells
  rw [dat_app, List.map_append]
theorem cells_one {x : Nat} (h : x < 256) : Lib.strCells (oneB x) = [.int .u8 ((x : Nat) : Int)] := by
  unfold oneB
  rw [strCells_nums (by intro y hy; simp at hy; omega)]; rfl
theorem cells_len (t : ByteArray) : (Lib.strCells t).length = t.size := Lib.strCells_length t
theorem snocB (n : Nat) (f : Nat → Nat) : strOfNums (bytesV (n + 1) f) = strOfNums (bytesV n f) ++ oneB (f n) := by
  apply Go.WideShapes.bytes_inj
  rw [dat_app, bytesV_succ, strOfNums_data, strOfNums_data]
  unfold oneB
  rw [strOfNums_data, List.map_append]
theorem GOwn.make (w : World) (t : ByteArray) (ht : t.size ≤ 1000000000) : ∃ v w', (convert 9 22 (.string t)).run Tryd.prog w = .ok v w' ∧ GOwn w' w.heap.size v t ∧ Below w.heap.size w w' := by
  have h := Lib.bytesWorld_at_new w 5 t
  have hs : (Lib.bytesCells w 5 t).size = grownCap w t.size 0 5 := by
    have := grownCap_ge w t.size 0 5
    unfold Lib.bytesCells
    rw [Array.size_append, Array.size_map, Array.size_replicate]
    show t.size + _ = _
    omega
  refine ⟨_, _, Lib.run_convert_string_bytes w 9 22 5 t Tryd.underlying9 Tryd.underlying22 Tryd.underlying5,
    ⟨w.heap.size, _, _, _, rfl, Nat.le_refl _, h, .inr (by rw [hs]; exact Nat.le_refl _), grownCap_ge _ _ _ _, grownCap_le_maxLen _ _ _ _ (by unfold maxLen; omega), hs, ?_⟩,
    ⟨rfl, rfl, rfl, by rw [Lib.bytesWorld_size]; omega, fun k hk => Lib.bytesWorld_at_old w _ t k hk⟩⟩
  unfold Lib.bytesCells Lib.strCells
  rw [Array.toList_append, Array.toList_map]
  rw [List.take_append_of_le_length (by rw [List.length_map]; exact Nat.le_refl _), List.take_of_length_le (by rw [List.length_map]; exact Nat.le_refl _)]
theorem GOwn.lt {w : World} {B : Nat} {v : Value} {T : ByteArray} (h : GOwn w B v T) : ∀ k, v.ownBlock = some k → B ≤ k ∧ k < w.heap.size := by
  rintro k hk
  obtain ⟨g, cap, cur, fz, rfl, hB, hg, _⟩ := h
  simp [Value.ownBlock] at hk
  subst hk
  exact ⟨hB, (Array.getElem?_eq_some_iff.1 hg).1⟩
theorem GOwn.alloc {w : World} {B : Nat} {v : Value} {T : ByteArray} (h : GOwn w B v T) (o : Obj) : GOwn (w.alloc o) B v T := by
  obtain ⟨g, cap, cur, fz, hv, hB, hg, rest⟩ := h
  exact ⟨g, cap, cur, fz, hv, hB, (heap_alloc_old w o (Array.getElem?_eq_some_iff.1 hg).1).trans hg, rest⟩
theorem GOwn.conv {w : World} {B : Nat} {v : Value} {T : ByteArray} (h : GOwn w B v T) : (convert 22 9 v).run Tryd.prog w = .ok (.string T) w := by
  obtain ⟨g, cap, cur, fz, rfl, hB, hg, hf, hn, hm, hs, ht⟩ := h
  have hc : RowC w g .u8 T.size (btN T) := by
    refine ⟨(Array.getElem?_eq_some_iff.1 hg).1, fun i hi => ?_, fun i hi => ?_⟩
    · have h2 : (cur.toList.take T.size)[i]? = (Lib.strCells T)[i]? := by rw [ht]
      rw [List.getElem?_take, if_pos hi] at h2
      have h3 : w.cell? ⟨g, i, none⟩ = cur[i]? := cell_of_row w g i cur _ fz hg
      rw [h3, ← Array.getElem?_toList, h2, ← btN_eq, bt_at]
      unfold Lib.strCells
      rw [List.getElem?_map, List.getElem?_eq_getElem (by simpa using hi)]; rfl
    · obtain ⟨lo, hi'⟩ := fz
      simp only [World.frozen?, hg]
      simp only at hf
      simp
      omega
  rw [hc.conv, text_of]
theorem setTake (l : List Value) (n : Nat) (v : Value) (h : n < l.length) : (l.set n v).take (n + 1) = l.take n ++ [v] := by
  apply List.ext_getElem?
  intro j
  rw [List.getElem?_take, List.getElem?_append, List.length_take, Nat.min_eq_left (Nat.le_of_lt h), List.getElem?_take]
  by_cases h1 : j < n
  · rw [if_pos (by omega), if_pos h1, if_pos h1, List.getElem?_set_ne (by omega)]
  · by_cases h2 : j = n
    · subst h2
      rw [if_pos (by omega), if_neg h1, List.getElem?_set_self h, Nat.sub_self]; rfl
    · rw [if_neg (by omega), if_neg h1, List.getElem?_eq_none (by simp; omega)]
theorem run_app_g (w : World) (B : Nat) (v : Value) (T : ByteArray) (hown : GOwn w B v T) (x : Nat) (hx : x < 256) (ad : Addr) (c : Nat) (hc : ∀ j u, [Value.int .u8 ((x : Nat) : Int)][j]? = some u → w.cell? (ad.add j) = some u)
    (hn : T.size ≤ 1000000000) (hB : B ≤ w.heap.size) (ty : TypeId) :
    ∃ v' w', (Builtin.append_ #[22, 22] ty #[v, .slice (some ad) 1 c]).run Tryd.prog w = .ok v' w' ∧ GOwn w' B v' (T ++ oneB x) ∧ w.grownBy w' v.ownBlock := by
  obtain ⟨i0, hi, hz, hsi, hby⟩ := info_u8
  have hsz : (T ++ oneB x).size = T.size + 1 := by rw [sz_app, oneB_size]
  have hcl : Lib.strCells (T ++ oneB x) = Lib.strCells T ++ [.int .u8 ((x : Nat) : Int)] := by rw [cells_app, cells_one hx]
  have hl0 := cells_len T
  obtain ⟨g, cap, cur, fz, rfl, hBg, hg, hf, hnc, hm, hs, ht⟩ := hown
  by_cases hroom : T.size + 1 ≤ cap
  · have hcell : w.cell? ⟨g, T.size, none⟩ = some cur[T.size] := by
      rw [cell_of_row w g T.size cur _ fz hg]; exact Array.getElem?_eq_getElem (by omega)
    have hfro : w.frozen? ⟨g, T.size, none⟩ = false := by
      obtain ⟨lo, hi'⟩ := fz
      simp only [World.frozen?, hg]
      simp only at hf
      simp
      omega
    have hfc := run_firstCells_some (P := Tryd.prog) w 1 1 ad 1 c [Value.int .u8 ((x : Nat) : Int)] rfl hc
    have hst : (store (⟨g, T.size, none⟩ : Addr) (.int .u8 ((x : Nat) : Int))).run Tryd.prog w = .ok () (w.setRow g (cur.setIfInBounds T.size (.int .u8 ((x : Nat) : Int)))) := by
      rw [run_store Tryd.prog w _ _ _ rfl, hcell]
      simp [hfro, setCell_eq_setRow w g T.size cur 5 fz _ hg]
    refine ⟨.slice (some ⟨g, 0, none⟩) (T.size + 1) cap, w.setRow g (cur.setIfInBounds T.size (.int .u8 ((x : Nat) : Int))), ?_, ?_, ?_⟩
    · have ha0 : ∀ o : Nat, (⟨g, o, none⟩ : Addr).add 0 = ⟨g, o, none⟩ := fun o => by unfold Addr.add; split <;> simp_all
      simp [Builtin.append_, run_underlying Tryd.underlying22, sizeOf, typeInfo, hi, hsi, Builtin.lenOf, hroom, hfc, Addr.add_lit, storeCells, ha0, hst]
    · refine ⟨g, cap, _, fz, by rw [hsz], hBg, setRow_heap w g cur _ _ _ hg, hf, by omega, hm, by rw [Array.size_setIfInBounds]; exact hs, ?_⟩
      rw [hsz, hcl, Array.toList_setIfInBounds, setTake _ _ _ (by rw [Array.length_toList]; omega), ht]
    · exact ⟨rfl, rfl, rfl, by simp, fun k _ hk => setRow_other w g k _ (fun e => hk (by simp [Value.ownBlock, e]))⟩
  · have holds : ∀ j u, (Lib.strCells T)[j]? = some u → w.cell? ((⟨g, 0, none⟩ : Addr).add j) = some u := by
      intro j u hu
      have hadd : (⟨g, 0, none⟩ : Addr).add j = ⟨g, j, none⟩ := by unfold Addr.add; split <;> simp_all
      rw [hadd, cell_of_row w g j cur 5 fz hg]
      rw [← ht, List.getElem?_take] at hu
      split at hu
      · simpa using hu
      · cases hu
    have hr := run_append_grow (P := Tryd.prog) w 22 ty 5 i0 (.int .u8 0) Tryd.underlying22 hi hz ⟨g, 0, none⟩ T.size cap (Lib.strCells T) (by rw [hsi]; omega) holds ad 1 c [Value.int .u8 ((x : Nat) : Int)] (by rw [hsi]; rfl) hc (by omega) (by omega) (growslice_fits (by omega) (by rw [hby]; omega))
    have hge := grownCap_ge w (T.size + 1) cap 5
    have hcm : grownCap w (T.size + 1) cap 5 ≤ maxLen := grownCap_le_maxLen w (T.size + 1) cap 5 (by unfold maxLen; omega)
    refine ⟨_, _, hr, ⟨w.heap.size, _, _, (0, 0), by rw [hsz], hB, heap_alloc_new w.drew _, .inl rfl, by omega, hcm, ?_, ?_⟩, ⟨rfl, rfl, rfl, by simp, fun k hk _ => heap_alloc_old w.drew _ hk⟩⟩
    · have hz1 : (Value.int IntKind.u8 0).cells.size = 1 := rfl
      simp only [Array.size_append, List.size_toArray, size_zeroCells, hz1, hl0, List.length_cons, List.length_nil]
      omega
    · rw [hsz, hcl]
      simp only [Array.toList_append, List.append_assoc]
      rw [← List.append_assoc]
      exact List.take_left' (by rw [List.length_append, hl0]; rfl)
theorem wpl_app_g {ops : Array Oper} {rest : List Oper} {o : Oper} {a : Act} {w : World} {Q : Exit → Act → World → Prop} (hgd : o.guard = none) (s x : Operand)
    (ho : o.op = .call { callee := .builtin .append, args := #[s, x], argTypes := #[22, 22] })
    (B : Nat) (v : Value) (T : ByteArray) (hs : a.eval s = v) (hown : GOwn w B v T) (b : Nat) (hb : b < 256) (ad : Addr) (c : Nat) (hx : a.eval x = .slice (some ad) 1 c)
    (hc : ∀ j u, [Value.int .u8 ((b : Nat) : Int)][j]? = some u → w.cell? (ad.add j) = some u) (hn : T.size ≤ 1000000000) (hB : B ≤ w.heap.size)
    (h : ∀ v' w', GOwn w' B v' (T ++ oneB b) → w.grownBy w' v.ownBlock → wpList Tryd.prog ops Q rest (a.put o.dst v') w') : wpList Tryd.prog ops Q (o :: rest) a w := by
  refine wpList_plain hgd fun K hK => ?_
  obtain ⟨v', w', hr, h2, h3⟩ := run_app_g w B v T hown b hb ad c hc hn hB o.type
  unfold Oper.wp execOp
  simp only [ho, resolve, invoke, builtin, Sem.run_bind, Sem.run_pure, Result.andThen_ok, List.map_toArray, List.map_cons, List.map_nil, hs, hx, hr]
  exact hK _ _ (h v' w' h2 h3)
end Go.Proofs.YthpkhbcahihbnaaDoor
