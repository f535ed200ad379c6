/- Chapter 11's readWords (the program's): a reader's own panic ends here, with nothing told. -/
import Derived.Test.YtlecpjgeaigjkaaWrd11
import Derived.Defers
import Derived.Recover
namespace Go.Proofs.Ytlecpjgeaigjkaa
open Go.RowKit
set_option linter.unusedVariables false
set_option maxRecDepth 20000 in
set_option maxHeartbeats 800000 in
theorem catchHl_idle (w : World) : CallsD Try.prog 91 #[] .returning w fun e u' w' => e = .returned (.tuple #[]) ∧ u' = .returning ∧ w' = w := by
  have hta : ∀ w : World, (Instr.typeAssert Value.nilIface 20 140 true).run Try.prog w = .ok (.tuple #[.agg #[], .bool false]) w := fun _ => by kernel_rfl
  refine callsD_of_wpS Try.func91 rfl fun c₀ cs hu => ?_
  apply wpS_seq
  apply wpS_region
  simp [wpOpsS, go_sem, recoverD, hu, Try.ntmps91, Exit.thenS]
  refine wpS_of_wp ?_
  go_wp2
  cases c₀
  simp_all [bodyPostS, results, Try.results91]
set_option maxRecDepth 20000 in
set_option maxHeartbeats 800000 in
theorem catchHl_not (older : List PanicEntry) (w : World) :
    CallsD Try.prog 91 #[] (.panicking ({ v := notV, recovered := false } :: older)) w fun e u' w' => e = .returned (.tuple #[]) ∧ u' = .panicking ({ v := notV, recovered := true } :: older) ∧ w' = w := by
  have hg1 : ∀ w : World, (eqGuard BinOp.eql 20 (Operand.tmp 2) (Operand.const Value.nilIface) (Value.iface 140 (Value.agg #[])) Value.nilIface).run Try.prog w = .ok () w := fun _ => by rfl
  have hg2 : ∀ w : World, (binOp BinOp.eql 20 (Value.iface 140 (Value.agg #[])) Value.nilIface).run Try.prog w = .ok (.bool false) w := fun _ => by rfl
  have hta : ∀ w : World, (Instr.typeAssert notV 20 140 true).run Try.prog w = .ok (.tuple #[.agg #[], .bool true]) w := fun _ => by kernel_rfl
  unfold notV at hta ⊢
  refine callsD_of_wpS Try.func91 rfl fun c₀ cs hu => ?_
  apply wpS_seq
  apply wpS_region
  simp [wpOpsS, go_sem, recoverD, hu, Try.ntmps91, Exit.thenS]
  refine wpS_of_wp ?_
  go_wp2
  cases c₀
  simp_all [bodyPostS, results, Try.results91]
set_option maxRecDepth 20000 in
set_option maxHeartbeats 800000 in
theorem catchSv_idle (w : World) : CallsD Try.prog 100 #[] .returning w fun e u' w' => e = .returned (.tuple #[]) ∧ u' = .returning ∧ w' = w := by
  have hta : ∀ w : World, (Instr.typeAssert Value.nilIface 20 140 true).run Try.prog w = .ok (.tuple #[.agg #[], .bool false]) w := fun _ => by kernel_rfl
  refine callsD_of_wpS Try.func100 rfl fun c₀ cs hu => ?_
  apply wpS_seq
  apply wpS_region
  simp [wpOpsS, go_sem, recoverD, hu, Try.ntmps100, Exit.thenS]
  refine wpS_of_wp ?_
  go_wp2
  cases c₀
  simp_all [bodyPostS, results, Try.results100]
set_option maxRecDepth 20000 in
set_option maxHeartbeats 800000 in
theorem catchSv_not (older : List PanicEntry) (w : World) :
    CallsD Try.prog 100 #[] (.panicking ({ v := notV, recovered := false } :: older)) w fun e u' w' => e = .returned (.tuple #[]) ∧ u' = .panicking ({ v := notV, recovered := true } :: older) ∧ w' = w := by
  have hg1 : ∀ w : World, (eqGuard BinOp.eql 20 (Operand.tmp 2) (Operand.const Value.nilIface) (Value.iface 140 (Value.agg #[])) Value.nilIface).run Try.prog w = .ok () w := fun _ => by rfl
  have hg2 : ∀ w : World, (binOp BinOp.eql 20 (Value.iface 140 (Value.agg #[])) Value.nilIface).run Try.prog w = .ok (.bool false) w := fun _ => by rfl
  have hta : ∀ w : World, (Instr.typeAssert notV 20 140 true).run Try.prog w = .ok (.tuple #[.agg #[], .bool true]) w := fun _ => by kernel_rfl
  unfold notV at hta ⊢
  refine callsD_of_wpS Try.func100 rfl fun c₀ cs hu => ?_
  apply wpS_seq
  apply wpS_region
  simp [wpOpsS, go_sem, recoverD, hu, Try.ntmps100, Exit.thenS]
  refine wpS_of_wp ?_
  go_wp2
  cases c₀
  simp_all [bodyPostS, results, Try.results100]
set_option maxRecDepth 20000 in
set_option maxHeartbeats 800000 in
theorem catchLt_idle (w : World) : CallsD Try.prog 102 #[] .returning w fun e u' w' => e = .returned (.tuple #[]) ∧ u' = .returning ∧ w' = w := by
  have hta : ∀ w : World, (Instr.typeAssert Value.nilIface 20 140 true).run Try.prog w = .ok (.tuple #[.agg #[], .bool false]) w := fun _ => by kernel_rfl
  refine callsD_of_wpS Try.func102 rfl fun c₀ cs hu => ?_
  apply wpS_seq
  apply wpS_region
  simp [wpOpsS, go_sem, recoverD, hu, Try.ntmps102, Exit.thenS]
  refine wpS_of_wp ?_
  go_wp2
  cases c₀
  simp_all [bodyPostS, results, Try.results102]
set_option maxRecDepth 20000 in
set_option maxHeartbeats 800000 in
theorem catchLt_not (older : List PanicEntry) (w : World) :
    CallsD Try.prog 102 #[] (.panicking ({ v := notV, recovered := false } :: older)) w fun e u' w' => e = .returned (.tuple #[]) ∧ u' = .panicking ({ v := notV, recovered := true } :: older) ∧ w' = w := by
  have hg1 : ∀ w : World, (eqGuard BinOp.eql 20 (Operand.tmp 2) (Operand.const Value.nilIface) (Value.iface 140 (Value.agg #[])) Value.nilIface).run Try.prog w = .ok () w := fun _ => by rfl
  have hg2 : ∀ w : World, (binOp BinOp.eql 20 (Value.iface 140 (Value.agg #[])) Value.nilIface).run Try.prog w = .ok (.bool false) w := fun _ => by rfl
  have hta : ∀ w : World, (Instr.typeAssert notV 20 140 true).run Try.prog w = .ok (.tuple #[.agg #[], .bool true]) w := fun _ => by kernel_rfl
  unfold notV at hta ⊢
  refine callsD_of_wpS Try.func102 rfl fun c₀ cs hu => ?_
  apply wpS_seq
  apply wpS_region
  simp [wpOpsS, go_sem, recoverD, hu, Try.ntmps102, Exit.thenS]
  refine wpS_of_wp ?_
  go_wp2
  cases c₀
  simp_all [bodyPostS, results, Try.results102]
theorem set2r {w : World} {g : Nat} {t : TypeId} {c0 c1 : Value} (h : w.heap[g]? = some (.cells #[c0, c1] t (0, 0))) (v0 v1 : Value) : ((w.setCell ⟨g, 0, none⟩ v0).setCell ⟨g, 1, none⟩ v1).heap[g]? = some (.cells #[v0, v1] t (0, 0)) := by
  have a0 := heap_setCell_same w g 0 _ _ v0 h
  exact (heap_setCell_same _ g 1 _ _ v1 a0).trans rfl
theorem set4r {w : World} {g : Nat} {t : TypeId} {c0 c1 c2 c3 : Value} (h : w.heap[g]? = some (.cells #[c0, c1, c2, c3] t (0, 0))) (v0 v1 v2 v3 : Value) : ((((w.setCell ⟨g, 0, none⟩ v0).setCell ⟨g, 1, none⟩ v1).setCell ⟨g, 2, none⟩ v2).setCell ⟨g, 3, none⟩ v3).heap[g]? = some (.cells #[v0, v1, v2, v3] t (0, 0)) := by
  have a0 := heap_setCell_same w g 0 _ _ v0 h
  have a1 := heap_setCell_same _ g 1 _ _ v1 a0
  have a2 := heap_setCell_same _ g 2 _ _ v2 a1
  exact (heap_setCell_same _ g 3 _ _ v3 a2).trans rfl
theorem sizeHl : (Try.prog.info? 34).map (·.size) = some 4 := by kernel_rfl
set_option maxHeartbeats 1600000 in
set_option maxRecDepth 20000 in
theorem readHl_any (a : Option Addr) (cap : Nat) (ns : List Nd) (k : Int) (x0 x1 x2 x3 : Int) (b : Bool) (w : World) (hl : ns.length ≤ 1048576) (hr : RowN w.heap.size w a ns)
    (HF0 : ∀ (g : Nat) (wz : World), Rd g a cap ns k wz → Calls Try.prog 59 #[.pointer (some ⟨g, 0, none⟩)] wz fun e w' => ((b = true ∧ e = .returned (.agg #[.int .i64 x0, .int .i64 x1, .int .i64 x2, .int .i64 x3])) ∨ (b = false ∧ e = notP)) ∧ wz.grownBy w' (some g)) :
    Calls Try.prog 58 #[.agg #[.slice a ns.length cap], .int .i64 k, .func (.func 59) #[] #[]] w fun e w' => ((b = true ∧ e = .returned (.tuple #[.agg #[.int .i64 x0, .int .i64 x1, .int .i64 x2, .int .i64 x3], .bool true])) ∨ (b = false ∧ e = .returned (.tuple #[.agg #[.int .i64 0, .int .i64 0, .int .i64 0, .int .i64 0], .bool false]))) ∧ Below w.heap.size w w' := by
  have eg := Try.call59
  have hmf : ∀ (fn : Fn) (first cap : Array Value) (w : World), (Instr.makeFunc fn first cap).run Try.prog w = .ok (.func fn first cap) w := fun _ _ _ _ => rfl
  have s0 : ((w.alloc (.cells #[.slice a ns.length cap] 30)).alloc (.cells #[.int .i64 0, .int .i64 0, .int .i64 0, .int .i64 0] 34)).heap.size = w.heap.size + 2 := by simp
  have hb0 : Below w.heap.size w ((w.alloc (.cells #[.slice a ns.length cap] 30)).alloc (.cells #[.int .i64 0, .int .i64 0, .int .i64 0, .int .i64 0] 34)) := ((Below.refl _ _).alloc (Nat.le_refl _) _).alloc (by simp) _
  have hb1 : Below w.heap.size w (((w.alloc (.cells #[.slice a ns.length cap] 30)).alloc (.cells #[.int .i64 0, .int .i64 0, .int .i64 0, .int .i64 0] 34)).alloc (.cells #[.slice a ns.length cap, .int .i64 k] 142)) := hb0.trans ((Below.refl _ _).alloc (by omega) _)
  have hz1 : (((w.alloc (.cells #[.slice a ns.length cap] 30)).alloc (.cells #[.int .i64 0, .int .i64 0, .int .i64 0, .int .i64 0] 34)).alloc (.cells #[.slice a ns.length cap, .int .i64 k] 142)).heap[w.heap.size + 1]? = some (.cells #[.int .i64 0, .int .i64 0, .int .i64 0, .int .i64 0] 34 (0, 0)) := by
    rw [heap_alloc_old _ _ (by rw [s0]; omega)]
    have := heap_alloc_new (w.alloc (.cells #[.slice a ns.length cap] 30)) (.cells #[.int .i64 0, .int .i64 0, .int .i64 0, .int .i64 0] 34)
    simpa using this
  have hg1 : (((w.alloc (.cells #[.slice a ns.length cap] 30)).alloc (.cells #[.int .i64 0, .int .i64 0, .int .i64 0, .int .i64 0] 34)).alloc (.cells #[.slice a ns.length cap, .int .i64 k] 142)).heap[w.heap.size + 2]? = some (.cells #[.slice a ns.length cap, .int .i64 k] 142 (0, 0)) := by
    have := heap_alloc_new ((w.alloc (.cells #[.slice a ns.length cap] 30)).alloc (.cells #[.int .i64 0, .int .i64 0, .int .i64 0, .int .i64 0] 34)) (.cells #[.slice a ns.length cap, .int .i64 k] 142)
    rw [s0] at this
    exact this
  have HC : Hid _ := HF0 (w.heap.size + 2) (((w.alloc (.cells #[.slice a ns.length cap] 30)).alloc (.cells #[.int .i64 0, .int .i64 0, .int .i64 0, .int .i64 0] 34)).alloc (.cells #[.slice a ns.length cap, .int .i64 k] 142)) ⟨hg1, (hr.later hb1).wide (by omega)⟩
  have HB1 : Hid (Below w.heap.size w (((w.alloc (.cells #[.slice a ns.length cap] 30)).alloc (.cells #[.int .i64 0, .int .i64 0, .int .i64 0, .int .i64 0] 34)).alloc (.cells #[.slice a ns.length cap, .int .i64 k] 142)) ∧ (((w.alloc (.cells #[.slice a ns.length cap] 30)).alloc (.cells #[.int .i64 0, .int .i64 0, .int .i64 0, .int .i64 0] 34)).alloc (.cells #[.slice a ns.length cap, .int .i64 k] 142)).heap[w.heap.size + 1]? = some (.cells #[.int .i64 0, .int .i64 0, .int .i64 0, .int .i64 0] 34 (0, 0)) ∧ w.heap.size + 3 = (((w.alloc (.cells #[.slice a ns.length cap] 30)).alloc (.cells #[.int .i64 0, .int .i64 0, .int .i64 0, .int .i64 0] 34)).alloc (.cells #[.slice a ns.length cap, .int .i64 k] 142)).heap.size) := ⟨hb1, hz1, by simp⟩
  have cA : ((w.alloc (.cells #[.slice a ns.length cap] 30)).alloc (.cells #[.int .i64 0, .int .i64 0, .int .i64 0, .int .i64 0] 34)).cell? ⟨w.heap.size, 0, none⟩ = some (.slice a ns.length cap) := by
    have e : ((w.alloc (.cells #[.slice a ns.length cap] 30)).alloc (.cells #[.int .i64 0, .int .i64 0, .int .i64 0, .int .i64 0] 34)).heap[w.heap.size]? = some (.cells #[.slice a ns.length cap] 30 (0, 0)) := (heap_alloc_old _ _ (by simp)).trans (heap_alloc_new w _)
    exact (cell_of_row _ _ 0 _ _ _ e).trans rfl
  clear HF0 hr hb0 hb1 hz1 hg1
  go_enter_defers Try.func58, Try.ntmps58
  go_wp2_with fail
  generalize (((w.alloc (.cells #[.slice a ns.length cap] 30)).alloc (.cells #[.int .i64 0, .int .i64 0, .int .i64 0, .int .i64 0] 34)).alloc (.cells #[.slice a ns.length cap, .int .i64 k] 142)) = w1 at HC HB1 ⊢
  refine Calls.mono HC.out ?_
  rintro e w2 ⟨he, hg⟩
  have hs1 := HB1.out.2.2
  have hz2 : w2.heap[w.heap.size + 1]? = some (.cells #[.int .i64 0, .int .i64 0, .int .i64 0, .int .i64 0] 34 (0, 0)) := (hg.block _ (by omega) (by simp)).trans HB1.out.2.1
  have HB2 : Hid (Below w.heap.size w w2) := HB1.out.1.grown hg (by omega) (fun k hk => by cases hk; omega)
  clear hg HC HB1 cA s0
  rcases he with ⟨hbt, rfl⟩ | ⟨hbt, rfl⟩
  · have HBT : Hid (b = true) := hbt
    clear hbt
    have e0 : w2.cell? ⟨w.heap.size + 1, 0, none⟩ = some (.int .i64 0) := (cell_of_row _ _ 0 _ _ _ hz2).trans rfl
    have f0 : w2.frozen? ⟨w.heap.size + 1, 0, none⟩ = false := frozen_of_row _ _ 0 _ _ hz2
    have e1 : w2.cell? ⟨w.heap.size + 1, 1, none⟩ = some (.int .i64 0) := (cell_of_row _ _ 1 _ _ _ hz2).trans rfl
    have f1 : w2.frozen? ⟨w.heap.size + 1, 1, none⟩ = false := frozen_of_row _ _ 1 _ _ hz2
    have e2 : w2.cell? ⟨w.heap.size + 1, 2, none⟩ = some (.int .i64 0) := (cell_of_row _ _ 2 _ _ _ hz2).trans rfl
    have f2 : w2.frozen? ⟨w.heap.size + 1, 2, none⟩ = false := frozen_of_row _ _ 2 _ _ hz2
    have e3 : w2.cell? ⟨w.heap.size + 1, 3, none⟩ = some (.int .i64 0) := (cell_of_row _ _ 3 _ _ _ hz2).trans rfl
    have f3 : w2.frozen? ⟨w.heap.size + 1, 3, none⟩ = false := frozen_of_row _ _ 3 _ _ hz2
    have HX : Hid _ := set4r hz2 (.int .i64 x0) (.int .i64 x1) (.int .i64 x2) (.int .i64 x3)
    have HB3 : Hid (Below w.heap.size w ((((w2.setCell ⟨w.heap.size + 1, 0, none⟩ (.int .i64 x0)).setCell ⟨w.heap.size + 1, 1, none⟩ (.int .i64 x1)).setCell ⟨w.heap.size + 1, 2, none⟩ (.int .i64 x2)).setCell ⟨w.heap.size + 1, 3, none⟩ (.int .i64 x3))) := ((((HB2.out).setCell (show w.heap.size ≤ (⟨w.heap.size + 1, 0, none⟩ : Addr).block from Nat.le_succ _) _).setCell (show w.heap.size ≤ (⟨w.heap.size + 1, 1, none⟩ : Addr).block from Nat.le_succ _) _).setCell (show w.heap.size ≤ (⟨w.heap.size + 1, 2, none⟩ : Addr).block from Nat.le_succ _) _).setCell (show w.heap.size ≤ (⟨w.heap.size + 1, 3, none⟩ : Addr).block from Nat.le_succ _) _
    clear hz2 HB2
    go_wp2
    refine leaves_cons (f := 91) (args := #[]) (by simp) (by simp [go_sem]) ?_
    refine (catchHl_idle _).mono ?_
    rintro e u' w3 ⟨rfl, rfl, rfl⟩
    refine ⟨_, ?_, .inl ⟨HBT.out, rfl⟩, HB3.out⟩
    refine res_cell2 (fn := Try.f58) (p := 6) (u := 7) (ty := 34) rfl _ _ (w.heap.size + 1) 34 #[.int .i64 x0, .int .i64 x1, .int .i64 x2, .int .i64 x3] (0, 0) _ ?_ HX.out Try.underlying34 rfl sizeHl
    rfl
  · have HX : Hid (w2.heap[w.heap.size + 1]? = some (.cells #[.int .i64 0, .int .i64 0, .int .i64 0, .int .i64 0] 34 (0, 0))) := hz2
    clear hz2
    show bodyPostD _ _ _ _ _ _
    refine leaves_cons (f := 91) (args := #[]) (by simp) (by simp [go_sem]) ?_
    refine (catchHl_not [] w2).mono ?_
    rintro e u' w3 ⟨rfl, rfl, rfl⟩
    refine ⟨_, ?_, .inr ⟨hbt, rfl⟩, HB2.out⟩
    refine res_cell2 (fn := Try.f58) (p := 6) (u := 7) (ty := 34) rfl _ _ (w.heap.size + 1) 34 #[.int .i64 0, .int .i64 0, .int .i64 0, .int .i64 0] (0, 0) _ ?_ HX.out Try.underlying34 rfl sizeHl
    rfl
theorem sizeSv : (Try.prog.info? 80).map (·.size) = some 2 := by kernel_rfl
set_option maxHeartbeats 1600000 in
set_option maxRecDepth 20000 in
theorem readSv_any (a : Option Addr) (cap : Nat) (ns : List Nd) (k : Int) (x0 x1 : Int) (b : Bool) (w : World) (hl : ns.length ≤ 1048576) (hr : RowN w.heap.size w a ns)
    (HF0 : ∀ (g : Nat) (wz : World), Rd g a cap ns k wz → Calls Try.prog 67 #[.pointer (some ⟨g, 0, none⟩)] wz fun e w' => ((b = true ∧ e = .returned (.agg #[.int .i64 x0, .int .i64 x1])) ∨ (b = false ∧ e = notP)) ∧ wz.grownBy w' (some g)) :
    Calls Try.prog 66 #[.agg #[.slice a ns.length cap], .int .i64 k, .func (.func 67) #[] #[]] w fun e w' => ((b = true ∧ e = .returned (.tuple #[.agg #[.int .i64 x0, .int .i64 x1], .bool true])) ∨ (b = false ∧ e = .returned (.tuple #[.agg #[.int .i64 0, .int .i64 0], .bool false]))) ∧ Below w.heap.size w w' := by
  have eg := Try.call67
  have hmf : ∀ (fn : Fn) (first cap : Array Value) (w : World), (Instr.makeFunc fn first cap).run Try.prog w = .ok (.func fn first cap) w := fun _ _ _ _ => rfl
  have s0 : ((w.alloc (.cells #[.slice a ns.length cap] 30)).alloc (.cells #[.int .i64 0, .int .i64 0] 80)).heap.size = w.heap.size + 2 := by simp
  have hb0 : Below w.heap.size w ((w.alloc (.cells #[.slice a ns.length cap] 30)).alloc (.cells #[.int .i64 0, .int .i64 0] 80)) := ((Below.refl _ _).alloc (Nat.le_refl _) _).alloc (by simp) _
  have hb1 : Below w.heap.size w (((w.alloc (.cells #[.slice a ns.length cap] 30)).alloc (.cells #[.int .i64 0, .int .i64 0] 80)).alloc (.cells #[.slice a ns.length cap, .int .i64 k] 142)) := hb0.trans ((Below.refl _ _).alloc (by omega) _)
  have hz1 : (((w.alloc (.cells #[.slice a ns.length cap] 30)).alloc (.cells #[.int .i64 0, .int .i64 0] 80)).alloc (.cells #[.slice a ns.length cap, .int .i64 k] 142)).heap[w.heap.size + 1]? = some (.cells #[.int .i64 0, .int .i64 0] 80 (0, 0)) := by
    rw [heap_alloc_old _ _ (by rw [s0]; omega)]
    have := heap_alloc_new (w.alloc (.cells #[.slice a ns.length cap] 30)) (.cells #[.int .i64 0, .int .i64 0] 80)
    simpa using this
  have hg1 : (((w.alloc (.cells #[.slice a ns.length cap] 30)).alloc (.cells #[.int .i64 0, .int .i64 0] 80)).alloc (.cells #[.slice a ns.length cap, .int .i64 k] 142)).heap[w.heap.size + 2]? = some (.cells #[.slice a ns.length cap, .int .i64 k] 142 (0, 0)) := by
    have := heap_alloc_new ((w.alloc (.cells #[.slice a ns.length cap] 30)).alloc (.cells #[.int .i64 0, .int .i64 0] 80)) (.cells #[.slice a ns.length cap, .int .i64 k] 142)
    rw [s0] at this
    exact this
  have HC : Hid _ := HF0 (w.heap.size + 2) (((w.alloc (.cells #[.slice a ns.length cap] 30)).alloc (.cells #[.int .i64 0, .int .i64 0] 80)).alloc (.cells #[.slice a ns.length cap, .int .i64 k] 142)) ⟨hg1, (hr.later hb1).wide (by omega)⟩
  have HB1 : Hid (Below w.heap.size w (((w.alloc (.cells #[.slice a ns.length cap] 30)).alloc (.cells #[.int .i64 0, .int .i64 0] 80)).alloc (.cells #[.slice a ns.length cap, .int .i64 k] 142)) ∧ (((w.alloc (.cells #[.slice a ns.length cap] 30)).alloc (.cells #[.int .i64 0, .int .i64 0] 80)).alloc (.cells #[.slice a ns.length cap, .int .i64 k] 142)).heap[w.heap.size + 1]? = some (.cells #[.int .i64 0, .int .i64 0] 80 (0, 0)) ∧ w.heap.size + 3 = (((w.alloc (.cells #[.slice a ns.length cap] 30)).alloc (.cells #[.int .i64 0, .int .i64 0] 80)).alloc (.cells #[.slice a ns.length cap, .int .i64 k] 142)).heap.size) := ⟨hb1, hz1, by simp⟩
  have cA : ((w.alloc (.cells #[.slice a ns.length cap] 30)).alloc (.cells #[.int .i64 0, .int .i64 0] 80)).cell? ⟨w.heap.size, 0, none⟩ = some (.slice a ns.length cap) := by
    have e : ((w.alloc (.cells #[.slice a ns.length cap] 30)).alloc (.cells #[.int .i64 0, .int .i64 0] 80)).heap[w.heap.size]? = some (.cells #[.slice a ns.length cap] 30 (0, 0)) := (heap_alloc_old _ _ (by simp)).trans (heap_alloc_new w _)
    exact (cell_of_row _ _ 0 _ _ _ e).trans rfl
  clear HF0 hr hb0 hb1 hz1 hg1
  go_enter_defers Try.func66, Try.ntmps66
  go_wp2_with fail
  generalize (((w.alloc (.cells #[.slice a ns.length cap] 30)).alloc (.cells #[.int .i64 0, .int .i64 0] 80)).alloc (.cells #[.slice a ns.length cap, .int .i64 k] 142)) = w1 at HC HB1 ⊢
  refine Calls.mono HC.out ?_
  rintro e w2 ⟨he, hg⟩
  have hs1 := HB1.out.2.2
  have hz2 : w2.heap[w.heap.size + 1]? = some (.cells #[.int .i64 0, .int .i64 0] 80 (0, 0)) := (hg.block _ (by omega) (by simp)).trans HB1.out.2.1
  have HB2 : Hid (Below w.heap.size w w2) := HB1.out.1.grown hg (by omega) (fun k hk => by cases hk; omega)
  clear hg HC HB1 cA s0
  rcases he with ⟨hbt, rfl⟩ | ⟨hbt, rfl⟩
  · have HBT : Hid (b = true) := hbt
    clear hbt
    have e0 : w2.cell? ⟨w.heap.size + 1, 0, none⟩ = some (.int .i64 0) := (cell_of_row _ _ 0 _ _ _ hz2).trans rfl
    have f0 : w2.frozen? ⟨w.heap.size + 1, 0, none⟩ = false := frozen_of_row _ _ 0 _ _ hz2
    have e1 : w2.cell? ⟨w.heap.size + 1, 1, none⟩ = some (.int .i64 0) := (cell_of_row _ _ 1 _ _ _ hz2).trans rfl
    have f1 : w2.frozen? ⟨w.heap.size + 1, 1, none⟩ = false := frozen_of_row _ _ 1 _ _ hz2
    have HX : Hid _ := set2r hz2 (.int .i64 x0) (.int .i64 x1)
    have HB3 : Hid (Below w.heap.size w ((w2.setCell ⟨w.heap.size + 1, 0, none⟩ (.int .i64 x0)).setCell ⟨w.heap.size + 1, 1, none⟩ (.int .i64 x1))) := ((HB2.out).setCell (show w.heap.size ≤ (⟨w.heap.size + 1, 0, none⟩ : Addr).block from Nat.le_succ _) _).setCell (show w.heap.size ≤ (⟨w.heap.size + 1, 1, none⟩ : Addr).block from Nat.le_succ _) _
    clear hz2 HB2
    go_wp2
    refine leaves_cons (f := 100) (args := #[]) (by simp) (by simp [go_sem]) ?_
    refine (catchSv_idle _).mono ?_
    rintro e u' w3 ⟨rfl, rfl, rfl⟩
    refine ⟨_, ?_, .inl ⟨HBT.out, rfl⟩, HB3.out⟩
    refine res_cell2 (fn := Try.f66) (p := 6) (u := 7) (ty := 80) rfl _ _ (w.heap.size + 1) 80 #[.int .i64 x0, .int .i64 x1] (0, 0) _ ?_ HX.out Try.underlying80 rfl sizeSv
    rfl
  · have HX : Hid (w2.heap[w.heap.size + 1]? = some (.cells #[.int .i64 0, .int .i64 0] 80 (0, 0))) := hz2
    clear hz2
    show bodyPostD _ _ _ _ _ _
    refine leaves_cons (f := 100) (args := #[]) (by simp) (by simp [go_sem]) ?_
    refine (catchSv_not [] w2).mono ?_
    rintro e u' w3 ⟨rfl, rfl, rfl⟩
    refine ⟨_, ?_, .inr ⟨hbt, rfl⟩, HB2.out⟩
    refine res_cell2 (fn := Try.f66) (p := 6) (u := 7) (ty := 80) rfl _ _ (w.heap.size + 1) 80 #[.int .i64 0, .int .i64 0] (0, 0) _ ?_ HX.out Try.underlying80 rfl sizeSv
    rfl
theorem sizeLt : (Try.prog.info? 83).map (·.size) = some 2 := by kernel_rfl
set_option maxHeartbeats 1600000 in
set_option maxRecDepth 20000 in
theorem readLt_any (a : Option Addr) (cap : Nat) (ns : List Nd) (k : Int) (kd : Int) (n : Nat) (cs : Array Value) (b : Bool) (w : World) (hl : ns.length ≤ 1048576) (hr : RowN w.heap.size w a ns)
    (HF0 : ∀ (g : Nat) (wz : World), Rd g a cap ns k wz → Calls Try.prog 70 #[.pointer (some ⟨g, 0, none⟩)] wz fun e w' => ((∃ h, b = true ∧ e = .returned (.agg #[.int .i64 kd, .slice (some ⟨h, 0, none⟩) n n]) ∧ wz.heap.size ≤ h ∧ w'.heap[h]? = some (.cells cs 3 (0, 0))) ∨ (b = false ∧ e = notP)) ∧ wz.grownBy w' (some g)) :
    Calls Try.prog 69 #[.agg #[.slice a ns.length cap], .int .i64 k, .func (.func 70) #[] #[]] w fun e w' => ((∃ h, b = true ∧ e = .returned (.tuple #[.agg #[.int .i64 kd, .slice (some ⟨h, 0, none⟩) n n], .bool true]) ∧ w.heap.size ≤ h ∧ w'.heap[h]? = some (.cells cs 3 (0, 0))) ∨ (b = false ∧ e = .returned (.tuple #[.agg #[.int .i64 0, .slice none 0 0], .bool false]))) ∧ Below w.heap.size w w' := by
  have eg := Try.call70
  have hmf : ∀ (fn : Fn) (first cap : Array Value) (w : World), (Instr.makeFunc fn first cap).run Try.prog w = .ok (.func fn first cap) w := fun _ _ _ _ => rfl
  have s0 : ((w.alloc (.cells #[.slice a ns.length cap] 30)).alloc (.cells #[.int .i64 0, .slice none 0 0] 83)).heap.size = w.heap.size + 2 := by simp
  have hb0 : Below w.heap.size w ((w.alloc (.cells #[.slice a ns.length cap] 30)).alloc (.cells #[.int .i64 0, .slice none 0 0] 83)) := ((Below.refl _ _).alloc (Nat.le_refl _) _).alloc (by simp) _
  have hb1 : Below w.heap.size w (((w.alloc (.cells #[.slice a ns.length cap] 30)).alloc (.cells #[.int .i64 0, .slice none 0 0] 83)).alloc (.cells #[.slice a ns.length cap, .int .i64 k] 142)) := hb0.trans ((Below.refl _ _).alloc (by omega) _)
  have hz1 : (((w.alloc (.cells #[.slice a ns.length cap] 30)).alloc (.cells #[.int .i64 0, .slice none 0 0] 83)).alloc (.cells #[.slice a ns.length cap, .int .i64 k] 142)).heap[w.heap.size + 1]? = some (.cells #[.int .i64 0, .slice none 0 0] 83 (0, 0)) := by
    rw [heap_alloc_old _ _ (by rw [s0]; omega)]
    have := heap_alloc_new (w.alloc (.cells #[.slice a ns.length cap] 30)) (.cells #[.int .i64 0, .slice none 0 0] 83)
    simpa using this
  have hg1 : (((w.alloc (.cells #[.slice a ns.length cap] 30)).alloc (.cells #[.int .i64 0, .slice none 0 0] 83)).alloc (.cells #[.slice a ns.length cap, .int .i64 k] 142)).heap[w.heap.size + 2]? = some (.cells #[.slice a ns.length cap, .int .i64 k] 142 (0, 0)) := by
    have := heap_alloc_new ((w.alloc (.cells #[.slice a ns.length cap] 30)).alloc (.cells #[.int .i64 0, .slice none 0 0] 83)) (.cells #[.slice a ns.length cap, .int .i64 k] 142)
    rw [s0] at this
    exact this
  have HC : Hid _ := HF0 (w.heap.size + 2) (((w.alloc (.cells #[.slice a ns.length cap] 30)).alloc (.cells #[.int .i64 0, .slice none 0 0] 83)).alloc (.cells #[.slice a ns.length cap, .int .i64 k] 142)) ⟨hg1, (hr.later hb1).wide (by omega)⟩
  have HB1 : Hid (Below w.heap.size w (((w.alloc (.cells #[.slice a ns.length cap] 30)).alloc (.cells #[.int .i64 0, .slice none 0 0] 83)).alloc (.cells #[.slice a ns.length cap, .int .i64 k] 142)) ∧ (((w.alloc (.cells #[.slice a ns.length cap] 30)).alloc (.cells #[.int .i64 0, .slice none 0 0] 83)).alloc (.cells #[.slice a ns.length cap, .int .i64 k] 142)).heap[w.heap.size + 1]? = some (.cells #[.int .i64 0, .slice none 0 0] 83 (0, 0)) ∧ w.heap.size + 3 = (((w.alloc (.cells #[.slice a ns.length cap] 30)).alloc (.cells #[.int .i64 0, .slice none 0 0] 83)).alloc (.cells #[.slice a ns.length cap, .int .i64 k] 142)).heap.size) := ⟨hb1, hz1, by simp⟩
  have cA : ((w.alloc (.cells #[.slice a ns.length cap] 30)).alloc (.cells #[.int .i64 0, .slice none 0 0] 83)).cell? ⟨w.heap.size, 0, none⟩ = some (.slice a ns.length cap) := by
    have e : ((w.alloc (.cells #[.slice a ns.length cap] 30)).alloc (.cells #[.int .i64 0, .slice none 0 0] 83)).heap[w.heap.size]? = some (.cells #[.slice a ns.length cap] 30 (0, 0)) := (heap_alloc_old _ _ (by simp)).trans (heap_alloc_new w _)
    exact (cell_of_row _ _ 0 _ _ _ e).trans rfl
  clear HF0 hr hb0 hb1 hz1 hg1
  go_enter_defers Try.func69, Try.ntmps69
  go_wp2_with fail
  generalize (((w.alloc (.cells #[.slice a ns.length cap] 30)).alloc (.cells #[.int .i64 0, .slice none 0 0] 83)).alloc (.cells #[.slice a ns.length cap, .int .i64 k] 142)) = w1 at HC HB1 ⊢
  refine Calls.mono HC.out ?_
  rintro e w2 ⟨he, hg⟩
  have hs1 := HB1.out.2.2
  have hz2 : w2.heap[w.heap.size + 1]? = some (.cells #[.int .i64 0, .slice none 0 0] 83 (0, 0)) := (hg.block _ (by omega) (by simp)).trans HB1.out.2.1
  have HB2 : Hid (Below w.heap.size w w2) := HB1.out.1.grown hg (by omega) (fun k hk => by cases hk; omega)
  clear hg HC HB1 cA s0
  rcases he with ⟨h, hbt, rfl, hlo, hrow⟩ | ⟨hbt, rfl⟩
  · have HBT : Hid (b = true) := hbt
    clear hbt
    have e0 : w2.cell? ⟨w.heap.size + 1, 0, none⟩ = some (.int .i64 0) := (cell_of_row _ _ 0 _ _ _ hz2).trans rfl
    have f0 : w2.frozen? ⟨w.heap.size + 1, 0, none⟩ = false := frozen_of_row _ _ 0 _ _ hz2
    have e1 : w2.cell? ⟨w.heap.size + 1, 1, none⟩ = some (.slice none 0 0) := (cell_of_row _ _ 1 _ _ _ hz2).trans rfl
    have f1 : w2.frozen? ⟨w.heap.size + 1, 1, none⟩ = false := frozen_of_row _ _ 1 _ _ hz2
    have HX : Hid _ := set2r hz2 (.int .i64 kd) (.slice (some ⟨h, 0, none⟩) n n)
    have HB3 : Hid (Below w.heap.size w ((w2.setCell ⟨w.heap.size + 1, 0, none⟩ (.int .i64 kd)).setCell ⟨w.heap.size + 1, 1, none⟩ (.slice (some ⟨h, 0, none⟩) n n))) := ((HB2.out).setCell (show w.heap.size ≤ (⟨w.heap.size + 1, 0, none⟩ : Addr).block from Nat.le_succ _) _).setCell (show w.heap.size ≤ (⟨w.heap.size + 1, 1, none⟩ : Addr).block from Nat.le_succ _) _
    have HRW : Hid (((w2.setCell ⟨w.heap.size + 1, 0, none⟩ (.int .i64 kd)).setCell ⟨w.heap.size + 1, 1, none⟩ (.slice (some ⟨h, 0, none⟩) n n)).heap[h]? = some (.cells cs 3 (0, 0))) := (Below.heap_setCell _ _ _ _ (show h ≠ w.heap.size + 1 by omega)).trans ((Below.heap_setCell _ _ _ _ (show h ≠ w.heap.size + 1 by omega)).trans hrow)
    have HLO : Hid (w.heap.size ≤ h) := by show _ ≤ _; omega
    clear hrow hlo
    clear hz2 HB2
    go_wp2
    refine leaves_cons (f := 102) (args := #[]) (by simp) (by simp [go_sem]) ?_
    refine (catchLt_idle _).mono ?_
    rintro e u' w3 ⟨rfl, rfl, rfl⟩
    refine ⟨_, ?_, .inl ⟨h, HBT.out, rfl, HLO.out, HRW.out⟩, HB3.out⟩
    refine res_cell2 (fn := Try.f69) (p := 6) (u := 7) (ty := 83) rfl _ _ (w.heap.size + 1) 83 #[.int .i64 kd, .slice (some ⟨h, 0, none⟩) n n] (0, 0) _ ?_ HX.out Try.underlying83 rfl sizeLt
    rfl
  · have HX : Hid (w2.heap[w.heap.size + 1]? = some (.cells #[.int .i64 0, .slice none 0 0] 83 (0, 0))) := hz2
    clear hz2
    show bodyPostD _ _ _ _ _ _
    refine leaves_cons (f := 102) (args := #[]) (by simp) (by simp [go_sem]) ?_
    refine (catchLt_not [] w2).mono ?_
    rintro e u' w3 ⟨rfl, rfl, rfl⟩
    refine ⟨_, ?_, .inr ⟨hbt, rfl⟩, HB2.out⟩
    refine res_cell2 (fn := Try.f69) (p := 6) (u := 7) (ty := 83) rfl _ _ (w.heap.size + 1) 83 #[.int .i64 0, .slice none 0 0] (0, 0) _ ?_ HX.out Try.underlying83 rfl sizeLt
    rfl
end Go.Proofs.Ytlecpjgeaigjkaa
