/- The program's PacketIn (chapter 16). -/
import Derived.Test.YtagjdhiicpglaaaWrd16
import Derived.Test.YtagjdhiicpglaaaWrd11r
import Derived.Test.YtagjdhiicpglaaaPin16
import Derived.Defers
import Derived.Recover
import Derived.Deep.QuietTactic
namespace Go.Proofs.Ytagjdhiicpglaaa
open Go.RowKit
set_option linter.unusedVariables false
set_option maxRecDepth 20000 in
set_option maxHeartbeats 800000 in
theorem catchPk_idle (w : World) : CallsD Try.prog 21 #[] .returning w fun e u' w' => e = .returned (.tuple #[]) ∧ u' = .returning ∧ w' = w := by
  have hta : ∀ w : World, (Instr.typeAssert Value.nilIface 20 57 true).run Try.prog w = .ok (.tuple #[.agg #[], .bool false]) w := fun _ => by kernel_rfl
  refine callsD_of_wpS Try.func21 rfl fun c₀ cs hu => ?_
  apply wpS_seq
  apply wpS_region
  simp [wpOpsS, go_sem, recoverD, hu, Try.ntmps21, Exit.thenS]
  refine wpS_of_wp ?_
  go_wp2
  cases c₀
  simp_all [bodyPostS, results, Try.results21]
set_option maxRecDepth 20000 in
set_option maxHeartbeats 800000 in
theorem catchPk_not (older : List PanicEntry) (w : World) :
    CallsD Try.prog 21 #[] (.panicking ({ v := notV, recovered := false } :: older)) w fun e u' w' => e = .returned (.tuple #[]) ∧ u' = .panicking ({ v := notV, recovered := true } :: older) ∧ w' = w := by
  have hg1 : ∀ w : World, (eqGuard BinOp.eql 20 (Operand.tmp 2) (Operand.const Value.nilIface) (Value.iface 57 (Value.agg #[])) Value.nilIface).run Try.prog w = .ok () w := fun _ => by rfl
  have hg2 : ∀ w : World, (binOp BinOp.eql 20 (Value.iface 57 (Value.agg #[])) Value.nilIface).run Try.prog w = .ok (.bool false) w := fun _ => by rfl
  have hta : ∀ w : World, (Instr.typeAssert notV 20 57 true).run Try.prog w = .ok (.tuple #[.agg #[], .bool true]) w := fun _ => by kernel_rfl
  unfold notV at hta ⊢
  refine callsD_of_wpS Try.func21 rfl fun c₀ cs hu => ?_
  apply wpS_seq
  apply wpS_region
  simp [wpOpsS, go_sem, recoverD, hu, Try.ntmps21, Exit.thenS]
  refine wpS_of_wp ?_
  go_wp2
  cases c₀
  simp_all [bodyPostS, results, Try.results21]
theorem sizePk : (Try.prog.info? 27).map (·.size) = some 4 := by kernel_rfl
set_option maxHeartbeats 1600000 in
set_option maxRecDepth 20000 in
theorem readPk_any (a : Option Addr) (cap : Nat) (ns : List Nd) (k : Int) (x0 x1 x2 x3 : Int) (b : Bool) (w : World) (hl : ns.length ≤ 1048576) (hr : RowN w.heap.size w a ns)
    (HF0 : ∀ (g : Nat) (wz : World), Rd g a cap ns k wz → Calls Try.prog 16 #[.pointer (some ⟨g, 0, none⟩)] wz fun e w' => ((b = true ∧ e = .returned (.agg #[.int .i64 x0, .int .i64 x1, .int .i64 x2, .int .i64 x3])) ∨ (b = false ∧ e = notP)) ∧ wz.grownBy w' (some g)) :
    Calls Try.prog 15 #[.agg #[.slice a ns.length cap], .int .i64 k, .func (.func 16) #[] #[]] w fun e w' => ((b = true ∧ e = .returned (.tuple #[.agg #[.int .i64 x0, .int .i64 x1, .int .i64 x2, .int .i64 x3], .bool true])) ∨ (b = false ∧ e = .returned (.tuple #[.agg #[.int .i64 0, .int .i64 0, .int .i64 0, .int .i64 0], .bool false]))) ∧ Below w.heap.size w w' := by
  have eg := Try.call16
  have hmf : ∀ (fn : Fn) (first cap : Array Value) (w : World), (Instr.makeFunc fn first cap).run Try.prog w = .ok (.func fn first cap) w := fun _ _ _ _ => rfl
  have s0 : ((w.alloc (.cells #[.slice a ns.length cap] 32)).alloc (.cells #[.int .i64 0, .int .i64 0, .int .i64 0, .int .i64 0] 27)).heap.size = w.heap.size + 2 := by simp
  have hb0 : Below w.heap.size w ((w.alloc (.cells #[.slice a ns.length cap] 32)).alloc (.cells #[.int .i64 0, .int .i64 0, .int .i64 0, .int .i64 0] 27)) := ((Below.refl _ _).alloc (Nat.le_refl _) _).alloc (by simp) _
  have hb1 : Below w.heap.size w (((w.alloc (.cells #[.slice a ns.length cap] 32)).alloc (.cells #[.int .i64 0, .int .i64 0, .int .i64 0, .int .i64 0] 27)).alloc (.cells #[.slice a ns.length cap, .int .i64 k] 59)) := hb0.trans ((Below.refl _ _).alloc (by omega) _)
  have hz1 : (((w.alloc (.cells #[.slice a ns.length cap] 32)).alloc (.cells #[.int .i64 0, .int .i64 0, .int .i64 0, .int .i64 0] 27)).alloc (.cells #[.slice a ns.length cap, .int .i64 k] 59)).heap[w.heap.size + 1]? = some (.cells #[.int .i64 0, .int .i64 0, .int .i64 0, .int .i64 0] 27 (0, 0)) := by
    rw [heap_alloc_old _ _ (by rw [s0]; omega)]
    have := heap_alloc_new (w.alloc (.cells #[.slice a ns.length cap] 32)) (.cells #[.int .i64 0, .int .i64 0, .int .i64 0, .int .i64 0] 27)
    simpa using this
  have hg1 : (((w.alloc (.cells #[.slice a ns.length cap] 32)).alloc (.cells #[.int .i64 0, .int .i64 0, .int .i64 0, .int .i64 0] 27)).alloc (.cells #[.slice a ns.length cap, .int .i64 k] 59)).heap[w.heap.size + 2]? = some (.cells #[.slice a ns.length cap, .int .i64 k] 59 (0, 0)) := by
    have := heap_alloc_new ((w.alloc (.cells #[.slice a ns.length cap] 32)).alloc (.cells #[.int .i64 0, .int .i64 0, .int .i64 0, .int .i64 0] 27)) (.cells #[.slice a ns.length cap, .int .i64 k] 59)
    rw [s0] at this
    exact this
  have HC : Hid _ := HF0 (w.heap.size + 2) (((w.alloc (.cells #[.slice a ns.length cap] 32)).alloc (.cells #[.int .i64 0, .int .i64 0, .int .i64 0, .int .i64 0] 27)).alloc (.cells #[.slice a ns.length cap, .int .i64 k] 59)) ⟨hg1, (hr.later hb1).wide (by omega)⟩
  have HB1 : Hid (Below w.heap.size w (((w.alloc (.cells #[.slice a ns.length cap] 32)).alloc (.cells #[.int .i64 0, .int .i64 0, .int .i64 0, .int .i64 0] 27)).alloc (.cells #[.slice a ns.length cap, .int .i64 k] 59)) ∧ (((w.alloc (.cells #[.slice a ns.length cap] 32)).alloc (.cells #[.int .i64 0, .int .i64 0, .int .i64 0, .int .i64 0] 27)).alloc (.cells #[.slice a ns.length cap, .int .i64 k] 59)).heap[w.heap.size + 1]? = some (.cells #[.int .i64 0, .int .i64 0, .int .i64 0, .int .i64 0] 27 (0, 0)) ∧ w.heap.size + 3 = (((w.alloc (.cells #[.slice a ns.length cap] 32)).alloc (.cells #[.int .i64 0, .int .i64 0, .int .i64 0, .int .i64 0] 27)).alloc (.cells #[.slice a ns.length cap, .int .i64 k] 59)).heap.size) := ⟨hb1, hz1, by simp⟩
  have cA : ((w.alloc (.cells #[.slice a ns.length cap] 32)).alloc (.cells #[.int .i64 0, .int .i64 0, .int .i64 0, .int .i64 0] 27)).cell? ⟨w.heap.size, 0, none⟩ = some (.slice a ns.length cap) := by
    have e : ((w.alloc (.cells #[.slice a ns.length cap] 32)).alloc (.cells #[.int .i64 0, .int .i64 0, .int .i64 0, .int .i64 0] 27)).heap[w.heap.size]? = some (.cells #[.slice a ns.length cap] 32 (0, 0)) := (heap_alloc_old _ _ (by simp)).trans (heap_alloc_new w _)
    exact (cell_of_row _ _ 0 _ _ _ e).trans rfl
  clear HF0 hr hb0 hb1 hz1 hg1
  go_enter_defers Try.func15, Try.ntmps15
  go_wp2_with fail
  generalize (((w.alloc (.cells #[.slice a ns.length cap] 32)).alloc (.cells #[.int .i64 0, .int .i64 0, .int .i64 0, .int .i64 0] 27)).alloc (.cells #[.slice a ns.length cap, .int .i64 k] 59)) = w1 at HC HB1 ⊢
  refine Calls.mono HC.out ?_
  rintro e w2 ⟨he, hg⟩
  have hs1 := HB1.out.2.2
  have hz2 : w2.heap[w.heap.size + 1]? = some (.cells #[.int .i64 0, .int .i64 0, .int .i64 0, .int .i64 0] 27 (0, 0)) := (hg.block _ (by omega) (by simp)).trans HB1.out.2.1
  have HB2 : Hid (Below w.heap.size w w2) := HB1.out.1.grown hg (by omega) (fun k hk => by cases hk; omega)
  clear hg HC HB1 cA s0
  rcases he with ⟨hbt, rfl⟩ | ⟨hbt, rfl⟩
  · have HBT : Hid (b = true) := hbt
    clear hbt
    have e0 : w2.cell? ⟨w.heap.size + 1, 0, none⟩ = some (.int .i64 0) := (cell_of_row _ _ 0 _ _ _ hz2).trans rfl
    have f0 : w2.frozen? ⟨w.heap.size + 1, 0, none⟩ = false := frozen_of_row _ _ 0 _ _ hz2
    have e1 : w2.cell? ⟨w.heap.size + 1, 1, none⟩ = some (.int .i64 0) := (cell_of_row _ _ 1 _ _ _ hz2).trans rfl
    have f1 : w2.frozen? ⟨w.heap.size + 1, 1, none⟩ = false := frozen_of_row _ _ 1 _ _ hz2
    have e2 : w2.cell? ⟨w.heap.size + 1, 2, none⟩ = some (.int .i64 0) := (cell_of_row _ _ 2 _ _ _ hz2).trans rfl
    have f2 : w2.frozen? ⟨w.heap.size + 1, 2, none⟩ = false := frozen_of_row _ _ 2 _ _ hz2
    have e3 : w2.cell? ⟨w.heap.size + 1, 3, none⟩ = some (.int .i64 0) := (cell_of_row _ _ 3 _ _ _ hz2).trans rfl
    have f3 : w2.frozen? ⟨w.heap.size + 1, 3, none⟩ = false := frozen_of_row _ _ 3 _ _ hz2
    have HX : Hid _ := set4r hz2 (.int .i64 x0) (.int .i64 x1) (.int .i64 x2) (.int .i64 x3)
    have HB3 : Hid (Below w.heap.size w ((((w2.setCell ⟨w.heap.size + 1, 0, none⟩ (.int .i64 x0)).setCell ⟨w.heap.size + 1, 1, none⟩ (.int .i64 x1)).setCell ⟨w.heap.size + 1, 2, none⟩ (.int .i64 x2)).setCell ⟨w.heap.size + 1, 3, none⟩ (.int .i64 x3))) := ((((HB2.out).setCell (show w.heap.size ≤ (⟨w.heap.size + 1, 0, none⟩ : Addr).block from Nat.le_succ _) _).setCell (show w.heap.size ≤ (⟨w.heap.size + 1, 1, none⟩ : Addr).block from Nat.le_succ _) _).setCell (show w.heap.size ≤ (⟨w.heap.size + 1, 2, none⟩ : Addr).block from Nat.le_succ _) _).setCell (show w.heap.size ≤ (⟨w.heap.size + 1, 3, none⟩ : Addr).block from Nat.le_succ _) _
    clear hz2 HB2
    go_wp2
    refine leaves_cons (f := 21) (args := #[]) (by simp) (by simp [go_sem]) ?_
    refine (catchPk_idle _).mono ?_
    rintro e u' w3 ⟨rfl, rfl, rfl⟩
    refine ⟨_, ?_, .inl ⟨HBT.out, rfl⟩, HB3.out⟩
    refine res_cell2 (fn := Try.f15) (p := 6) (u := 7) (ty := 27) rfl _ _ (w.heap.size + 1) 27 #[.int .i64 x0, .int .i64 x1, .int .i64 x2, .int .i64 x3] (0, 0) _ ?_ HX.out Try.underlying27 rfl sizePk
    rfl
  · have HX : Hid (w2.heap[w.heap.size + 1]? = some (.cells #[.int .i64 0, .int .i64 0, .int .i64 0, .int .i64 0] 27 (0, 0))) := hz2
    clear hz2
    show bodyPostD _ _ _ _ _ _
    refine leaves_cons (f := 21) (args := #[]) (by simp) (by simp [go_sem]) ?_
    refine (catchPk_not [] w2).mono ?_
    rintro e u' w3 ⟨rfl, rfl, rfl⟩
    refine ⟨_, ?_, .inr ⟨hbt, rfl⟩, HB2.out⟩
    refine res_cell2 (fn := Try.f15) (p := 6) (u := 7) (ty := 27) rfl _ _ (w.heap.size + 1) 27 #[.int .i64 0, .int .i64 0, .int .i64 0, .int .i64 0] (0, 0) _ ?_ HX.out Try.underlying27 rfl sizePk
    rfl
theorem parts_is6 (ns : List Nd) (k : Int) : partsR ns k 6 = if (isK ns k 2 && (isK ns (ndAt ns k).b 2 && (isK ns (ndAt ns (ndAt ns k).b).b 2 && (isK ns (ndAt ns (ndAt ns (ndAt ns k).b).b).b 2 && (isK ns (ndAt ns (ndAt ns (ndAt ns (ndAt ns k).b).b).b).b 2 && (isK ns (ndAt ns (ndAt ns (ndAt ns (ndAt ns (ndAt ns k).b).b).b).b).b 2 && numIs ns (ndAt ns (ndAt ns (ndAt ns (ndAt ns (ndAt ns (ndAt ns k).b).b).b).b).b).b 0)))))) = true then some [(ndAt ns k).a, (ndAt ns (ndAt ns k).b).a, (ndAt ns (ndAt ns (ndAt ns k).b).b).a, (ndAt ns (ndAt ns (ndAt ns (ndAt ns k).b).b).b).a, (ndAt ns (ndAt ns (ndAt ns (ndAt ns (ndAt ns k).b).b).b).b).a, (ndAt ns (ndAt ns (ndAt ns (ndAt ns (ndAt ns (ndAt ns k).b).b).b).b).b).a] else none := by
  unfold partsR
  rw [if_neg (by omega), show (6 : Int).toNat = 6 from rfl]
  simp only [partsN_if, numIs_zero]
  cases isK ns k 2
  · simp
  cases isK ns (ndAt ns k).b 2
  · simp
  cases isK ns (ndAt ns (ndAt ns k).b).b 2
  · simp
  cases isK ns (ndAt ns (ndAt ns (ndAt ns k).b).b).b 2
  · simp
  cases isK ns (ndAt ns (ndAt ns (ndAt ns (ndAt ns k).b).b).b).b 2
  · simp
  cases isK ns (ndAt ns (ndAt ns (ndAt ns (ndAt ns (ndAt ns k).b).b).b).b).b 2
  · simp
  cases numIs ns (ndAt ns (ndAt ns (ndAt ns (ndAt ns (ndAt ns (ndAt ns k).b).b).b).b).b).b 0
  · simp
  · simp
theorem pkW_ok {s d h v : Int} (hk : pkOk ⟨s, d, h, v⟩ = true) : pkW s d h v = pkS ⟨s, d, h, v⟩ := by
  have h0 := hk
  unfold pkOk inB at h0
  simp at h0
  have e1 : wrap64 (s + d) = s + d := by unfold wrap64; omega
  have e2 : wrap64 (s + d + h) = s + d + h := by unfold wrap64; omega
  have e3 : wrap64 (s + d + h + v) = s + d + h + v := by unfold wrap64; omega
  unfold pkW pkS
  rw [e1, e2, e3]
theorem pin_is (ns : List Nd) (k : Int) : pinB ns k = (numB ns k && ((numV ns (ndAt ns k).a == 90) && (numB ns (ndAt ns k).b && (numB ns (ndAt ns (ndAt ns k).b).b && (numB ns (ndAt ns (ndAt ns (ndAt ns k).b).b).b && (numB ns (ndAt ns (ndAt ns (ndAt ns (ndAt ns k).b).b).b).b && (numB ns (ndAt ns (ndAt ns (ndAt ns (ndAt ns (ndAt ns k).b).b).b).b).b && ((numV ns (ndAt ns (ndAt ns (ndAt ns (ndAt ns (ndAt ns (ndAt ns k).b).b).b).b).b).a == pkW (numV ns (ndAt ns (ndAt ns k).b).a) (numV ns (ndAt ns (ndAt ns (ndAt ns k).b).b).a) (numV ns (ndAt ns (ndAt ns (ndAt ns (ndAt ns k).b).b).b).a) (numV ns (ndAt ns (ndAt ns (ndAt ns (ndAt ns (ndAt ns k).b).b).b).b).a)) && (pkOk (⟨numV ns (ndAt ns (ndAt ns k).b).a, numV ns (ndAt ns (ndAt ns (ndAt ns k).b).b).a, numV ns (ndAt ns (ndAt ns (ndAt ns (ndAt ns k).b).b).b).a, numV ns (ndAt ns (ndAt ns (ndAt ns (ndAt ns (ndAt ns k).b).b).b).b).a⟩ : Nd) && numIs ns (ndAt ns (ndAt ns (ndAt ns (ndAt ns (ndAt ns (ndAt ns k).b).b).b).b).b).b 0))))))))) ∧ (pinB ns k = true → pinP ns k = (⟨numV ns (ndAt ns (ndAt ns k).b).a, numV ns (ndAt ns (ndAt ns (ndAt ns k).b).b).a, numV ns (ndAt ns (ndAt ns (ndAt ns (ndAt ns k).b).b).b).a, numV ns (ndAt ns (ndAt ns (ndAt ns (ndAt ns (ndAt ns k).b).b).b).b).a⟩ : Nd)) := by
  unfold pinB pinA pinP pinN pinV partsB partsV numB
  rw [parts_is6]
  cases isK ns k 2
  · simp
  cases isK ns (ndAt ns k).b 2
  · simp
  cases isK ns (ndAt ns (ndAt ns k).b).b 2
  · simp
  cases isK ns (ndAt ns (ndAt ns (ndAt ns k).b).b).b 2
  · simp
  cases isK ns (ndAt ns (ndAt ns (ndAt ns (ndAt ns k).b).b).b).b 2
  · simp
  cases isK ns (ndAt ns (ndAt ns (ndAt ns (ndAt ns (ndAt ns k).b).b).b).b).b 2
  · simp
  cases numIs ns (ndAt ns (ndAt ns (ndAt ns (ndAt ns (ndAt ns (ndAt ns k).b).b).b).b).b).b 0
  · simp
  refine ⟨?_, fun _ => rfl⟩
  simp only [Bool.true_and, Bool.and_true, if_true, Option.isSome_some, Option.getD_some, List.getD_cons_zero, List.getD_cons_succ, List.map_cons, List.map_nil, List.all_cons, List.all_nil]
  cases hk : pkOk (⟨numV ns (ndAt ns (ndAt ns k).b).a, numV ns (ndAt ns (ndAt ns (ndAt ns k).b).b).a, numV ns (ndAt ns (ndAt ns (ndAt ns (ndAt ns k).b).b).b).a, numV ns (ndAt ns (ndAt ns (ndAt ns (ndAt ns (ndAt ns k).b).b).b).b).a⟩ : Nd) with
  | true =>
    rw [pkW_ok hk]
    rw [Bool.eq_iff_iff]
    simp
    exact ⟨fun ⟨⟨a, b, c, d, e, f⟩, g, h⟩ => ⟨a, g, b, c, d, e, f, h⟩, fun ⟨a, g, b, c, d, e, f, h⟩ => ⟨⟨a, b, c, d, e, f⟩, g, h⟩⟩
  | false => rw [Bool.eq_iff_iff]; simp
theorem wf_bd16 {p : Int} (h : (Lit.int .i64 p).wf = true) : -9223372036854775808 ≤ p ∧ p ≤ 9223372036854775807 := by
  simp [Lit.wf, IntKind.min, IntKind.max, IntKind.signed, IntKind.bits] at h
  omega
theorem nd4_fits {a b c d : Int} (h1 : (Lit.int .i64 a).wf = true) (h2 : (Lit.int .i64 b).wf = true) (h3 : (Lit.int .i64 c).wf = true) (h4 : (Lit.int .i64 d).wf = true) : (⟨a, b, c, d⟩ : Nd).Fits := by
  unfold Nd.Fits
  have e1 := wf_bd16 h1
  have e2 := wf_bd16 h2
  have e3 := wf_bd16 h3
  have e4 := wf_bd16 h4
  exact ⟨e1, e2, e3, e4⟩
theorem pkW_any (g : Nat) (a : Option Addr) (cap : Nat) (ns : List Nd) (k : Int) (w : World) (hl : ns.length ≤ 1048576) (hs : Rd g a cap ns k w) (hf : ∀ y ∈ ns, y.Fits) : Calls Try.prog 16 #[.pointer (some ⟨g, 0, none⟩)] w fun e w' => ((pinB ns k = true ∧ e = .returned (.agg #[.int .i64 (numV ns (ndAt ns (ndAt ns k).b).a), .int .i64 (numV ns (ndAt ns (ndAt ns (ndAt ns k).b).b).a), .int .i64 (numV ns (ndAt ns (ndAt ns (ndAt ns (ndAt ns k).b).b).b).a), .int .i64 (numV ns (ndAt ns (ndAt ns (ndAt ns (ndAt ns (ndAt ns k).b).b).b).b).a)])) ∨ (pinB ns k = false ∧ e = notP)) ∧ w.grownBy w' (some g) := by
  have hE := (pin_is ns k).1
  have NO : ∀ {w' : World} {e : Ending}, pinB ns k = false → RdN g w e w' → ((pinB ns k = true ∧ e = .returned (.agg #[.int .i64 (numV ns (ndAt ns (ndAt ns k).b).a), .int .i64 (numV ns (ndAt ns (ndAt ns (ndAt ns k).b).b).a), .int .i64 (numV ns (ndAt ns (ndAt ns (ndAt ns (ndAt ns k).b).b).b).a), .int .i64 (numV ns (ndAt ns (ndAt ns (ndAt ns (ndAt ns (ndAt ns k).b).b).b).b).a)])) ∨ (pinB ns k = false ∧ e = notP)) ∧ w.grownBy w' (some g) := fun hb h => ⟨.inr ⟨hb, h.1⟩, h.2⟩
  have hfit : (⟨numV ns (ndAt ns (ndAt ns k).b).a, numV ns (ndAt ns (ndAt ns (ndAt ns k).b).b).a, numV ns (ndAt ns (ndAt ns (ndAt ns (ndAt ns k).b).b).b).a, numV ns (ndAt ns (ndAt ns (ndAt ns (ndAt ns (ndAt ns k).b).b).b).b).a⟩ : Nd).Fits := nd4_fits (numV_wf11 hf) (numV_wf11 hf) (numV_wf11 hf) (numV_wf11 hf)
  cases h0 : numB ns k with
  | false =>
    refine Calls.mono (pk_f0 g a cap ns k 0 0 0 0 0 0 0 0 0 0 0 0 w hs (numC_no hl h0)) fun e w' h => NO ?_ h
    rw [hE, h0]; simp
  | true =>
    cases h1 : (numV ns (ndAt ns k).a == 90) with
    | false =>
      refine Calls.mono (pk_f1 g a cap ns k _ 0 0 0 0 0 _ 0 0 0 0 0 w hs (numC_ok hl h0) (h1)) fun e w' h => NO ?_ h
      rw [hE, h0, h1]; simp
    | true =>
      cases h2 : numB ns (ndAt ns k).b with
      | false =>
        refine Calls.mono (pk_f2 g a cap ns k _ 0 0 0 0 0 _ 0 0 0 0 0 w hs (numC_ok hl h0) (h1) (numC_no hl h2)) fun e w' h => NO ?_ h
        rw [hE, h0, h1, h2]; simp
      | true =>
        cases h3 : numB ns (ndAt ns (ndAt ns k).b).b with
        | false =>
          refine Calls.mono (pk_f3 g a cap ns k _ _ 0 0 0 0 _ _ 0 0 0 0 w hs (numC_ok hl h0) (h1) (numC_ok hl h2) (numC_no hl h3)) fun e w' h => NO ?_ h
          rw [hE, h0, h1, h2, h3]; simp
        | true =>
          cases h4 : numB ns (ndAt ns (ndAt ns (ndAt ns k).b).b).b with
          | false =>
            refine Calls.mono (pk_f4 g a cap ns k _ _ _ 0 0 0 _ _ _ 0 0 0 w hs (numC_ok hl h0) (h1) (numC_ok hl h2) (numC_ok hl h3) (numC_no hl h4)) fun e w' h => NO ?_ h
            rw [hE, h0, h1, h2, h3, h4]; simp
          | true =>
            cases h5 : numB ns (ndAt ns (ndAt ns (ndAt ns (ndAt ns k).b).b).b).b with
            | false =>
              refine Calls.mono (pk_f5 g a cap ns k _ _ _ _ 0 0 _ _ _ _ 0 0 w hs (numC_ok hl h0) (h1) (numC_ok hl h2) (numC_ok hl h3) (numC_ok hl h4) (numC_no hl h5)) fun e w' h => NO ?_ h
              rw [hE, h0, h1, h2, h3, h4, h5]; simp
            | true =>
              cases h6 : numB ns (ndAt ns (ndAt ns (ndAt ns (ndAt ns (ndAt ns k).b).b).b).b).b with
              | false =>
                refine Calls.mono (pk_f6 g a cap ns k _ _ _ _ _ 0 _ _ _ _ _ 0 w hs (numC_ok hl h0) (h1) (numC_ok hl h2) (numC_ok hl h3) (numC_ok hl h4) (numC_ok hl h5) (numC_no hl h6)) fun e w' h => NO ?_ h
                rw [hE, h0, h1, h2, h3, h4, h5, h6]; simp
              | true =>
                cases h7 : (numV ns (ndAt ns (ndAt ns (ndAt ns (ndAt ns (ndAt ns (ndAt ns k).b).b).b).b).b).a == pkW (numV ns (ndAt ns (ndAt ns k).b).a) (numV ns (ndAt ns (ndAt ns (ndAt ns k).b).b).a) (numV ns (ndAt ns (ndAt ns (ndAt ns (ndAt ns k).b).b).b).a) (numV ns (ndAt ns (ndAt ns (ndAt ns (ndAt ns (ndAt ns k).b).b).b).b).a)) with
                | false =>
                  refine Calls.mono (pk_f7 g a cap ns k _ _ _ _ _ _ _ _ _ _ _ _ w hs (numC_ok hl h0) (h1) (numC_ok hl h2) (numC_ok hl h3) (numC_ok hl h4) (numC_ok hl h5) (numC_ok hl h6) (h7)) fun e w' h => NO ?_ h
                  rw [hE, h0, h1, h2, h3, h4, h5, h6, h7]; simp
                | true =>
                  cases h8 : pkOk (⟨numV ns (ndAt ns (ndAt ns k).b).a, numV ns (ndAt ns (ndAt ns (ndAt ns k).b).b).a, numV ns (ndAt ns (ndAt ns (ndAt ns (ndAt ns k).b).b).b).a, numV ns (ndAt ns (ndAt ns (ndAt ns (ndAt ns (ndAt ns k).b).b).b).b).a⟩ : Nd) with
                  | false =>
                    refine Calls.mono (pk_f8 g a cap ns k _ _ _ _ _ _ _ _ _ _ _ _ w hs (numC_ok hl h0) (h1) (numC_ok hl h2) (numC_ok hl h3) (numC_ok hl h4) (numC_ok hl h5) (numC_ok hl h6) (hfit) (h7) (h8)) fun e w' h => NO ?_ h
                    rw [hE, h0, h1, h2, h3, h4, h5, h6, h7, h8]; simp
                  | true =>
                    cases h9 : numIs ns (ndAt ns (ndAt ns (ndAt ns (ndAt ns (ndAt ns (ndAt ns k).b).b).b).b).b).b 0 with
                    | false =>
                      refine Calls.mono (pk_f9 g a cap ns k _ _ _ _ _ _ _ _ _ _ _ _ w hs (numC_ok hl h0) (h1) (numC_ok hl h2) (numC_ok hl h3) (numC_ok hl h4) (numC_ok hl h5) (numC_ok hl h6) (hfit) (h7) (h8) (endC_no hl h9)) fun e w' h => NO ?_ h
                      rw [hE, h0, h1, h2, h3, h4, h5, h6, h7, h8, h9]; simp
                    | true =>
                      have hT : pinB ns k = true := by rw [hE, h0, h1, h2, h3, h4, h5, h6, h7, h8, h9]; rfl
                      refine Calls.mono (pk_ok g a cap ns k _ _ _ _ _ _ _ _ _ _ _ _ w hs (numC_ok hl h0) (h1) (numC_ok hl h2) (numC_ok hl h3) (numC_ok hl h4) (numC_ok hl h5) (numC_ok hl h6) (hfit) (h7) (h8) (endC_ok hl h9)) ?_
                      rintro e w' ⟨rfl, -, hg⟩
                      exact ⟨.inl ⟨hT, rfl⟩, hg⟩
set_option maxHeartbeats 1600000 in
set_option maxRecDepth 20000 in
theorem implPin_any (a : Option Addr) (cap : Nat) (ns : List Nd) (k : Int) (w : World) (hl : ns.length ≤ 1048576) (hf : ∀ y ∈ ns, y.Fits) (hr : RowN w.heap.size w a ns) :
    Calls Try.prog 7 #[.agg #[.slice a ns.length cap], .int .i64 k] w fun e w' => e = .returned (.tuple #[.agg #[.int .i64 ((pinR ns k).k), .int .i64 ((pinR ns k).n), .int .i64 ((pinR ns k).a), .int .i64 ((pinR ns k).b)], .bool (pinB ns k)]) ∧ Below w.heap.size w w' := by
  obtain ⟨y0, y1, y2, y3, HR⟩ : ∃ y0 y1 y2 y3 : Int, Hid (∀ wz, Below w.heap.size w wz → Calls Try.prog 15 #[.agg #[.slice a ns.length cap], .int .i64 k, .func (.func 16) #[] #[]] wz fun e w' => e = .returned (.tuple #[.agg #[.int .i64 ((pinR ns k).k), .int .i64 ((pinR ns k).n), .int .i64 ((pinR ns k).a), .int .i64 ((pinR ns k).b)], .bool (pinB ns k)]) ∧ Below wz.heap.size wz w') := by
    refine ⟨0, 0, 0, 0, fun wz hb => ?_⟩
    refine (readPk_any a cap ns k (numV ns (ndAt ns (ndAt ns k).b).a) (numV ns (ndAt ns (ndAt ns (ndAt ns k).b).b).a) (numV ns (ndAt ns (ndAt ns (ndAt ns (ndAt ns k).b).b).b).a) (numV ns (ndAt ns (ndAt ns (ndAt ns (ndAt ns (ndAt ns k).b).b).b).b).a) (pinB ns k) wz hl (hr.grown hb) (fun g wy hy => pkW_any g a cap ns k wy hl hy hf)).mono ?_
    rintro e w' ⟨⟨hb, rfl⟩ | ⟨hb, rfl⟩, h2⟩
    · refine ⟨?_, h2⟩
      unfold pinR
      rw [if_pos hb, (pin_is ns k).2 hb, hb]
    · refine ⟨?_, h2⟩
      unfold pinR
      rw [if_neg (by rw [hb]; simp), hb]; rfl
  have hb0 : Below w.heap.size w ((w.alloc (.cells #[.slice a ns.length cap] 32)).alloc (.cells #[.int .i64 0, .int .i64 0, .int .i64 0, .int .i64 0] 27)) := ((Below.refl _ _).alloc (Nat.le_refl _) _).alloc (by simp) _
  have hz : ((w.alloc (.cells #[.slice a ns.length cap] 32)).alloc (.cells #[.int .i64 0, .int .i64 0, .int .i64 0, .int .i64 0] 27)).heap[w.heap.size + 1]? = some (.cells #[.int .i64 0, .int .i64 0, .int .i64 0, .int .i64 0] 27 (0, 0)) := by
    have := heap_alloc_new (w.alloc (.cells #[.slice a ns.length cap] 32)) (.cells #[.int .i64 0, .int .i64 0, .int .i64 0, .int .i64 0] 27)
    simpa using this
  have hA : ((w.alloc (.cells #[.slice a ns.length cap] 32)).alloc (.cells #[.int .i64 0, .int .i64 0, .int .i64 0, .int .i64 0] 27)).heap[w.heap.size]? = some (.cells #[.slice a ns.length cap] 32 (0, 0)) := (heap_alloc_old _ _ (by simp)).trans (heap_alloc_new w _)
  have c0 : ((w.alloc (.cells #[.slice a ns.length cap] 32)).alloc (.cells #[.int .i64 0, .int .i64 0, .int .i64 0, .int .i64 0] 27)).cell? ⟨w.heap.size, 0, none⟩ = some (.slice a ns.length cap) := (cell_of_row _ _ 0 _ _ _ hA).trans rfl
  have HC : Hid _ := HR.out _ hb0
  have hs0 : ((w.alloc (.cells #[.slice a ns.length cap] 32)).alloc (.cells #[.int .i64 0, .int .i64 0, .int .i64 0, .int .i64 0] 27)).heap.size = w.heap.size + 2 := by simp
  generalize (pinR ns k).k = x0 at HC ⊢
  generalize (pinR ns k).n = x1 at HC ⊢
  generalize (pinR ns k).a = x2 at HC ⊢
  generalize (pinR ns k).b = x3 at HC ⊢
  generalize pinB ns k = bb at HC ⊢
  clear hr hf HR hA
  go_enter Try.func7, Try.ntmps7
  go_wp2_with fail
  generalize (w.alloc (.cells #[.slice a ns.length cap] 32)).alloc (.cells #[.int .i64 0, .int .i64 0, .int .i64 0, .int .i64 0] 27) = w0 at hb0 hz c0 HC hs0 ⊢
  refine Calls.mono HC.out ?_
  rintro e w1 ⟨rfl, hb1⟩
  have hz1 := (hb1.block (w.heap.size + 1) (by omega)).trans hz
  have e0 : w1.cell? ⟨w.heap.size + 1, 0, none⟩ = some (.int .i64 0) := (cell_of_row _ _ 0 _ _ _ hz1).trans rfl
  have e1 : w1.cell? ⟨w.heap.size + 1, 1, none⟩ = some (.int .i64 0) := (cell_of_row _ _ 1 _ _ _ hz1).trans rfl
  have e2 : w1.cell? ⟨w.heap.size + 1, 2, none⟩ = some (.int .i64 0) := (cell_of_row _ _ 2 _ _ _ hz1).trans rfl
  have e3 : w1.cell? ⟨w.heap.size + 1, 3, none⟩ = some (.int .i64 0) := (cell_of_row _ _ 3 _ _ _ hz1).trans rfl
  have f0 : w1.frozen? ⟨w.heap.size + 1, 0, none⟩ = false := frozen_of_row _ _ 0 _ _ hz1
  have f1 : w1.frozen? ⟨w.heap.size + 1, 1, none⟩ = false := frozen_of_row _ _ 1 _ _ hz1
  have f2 : w1.frozen? ⟨w.heap.size + 1, 2, none⟩ = false := frozen_of_row _ _ 2 _ _ hz1
  have f3 : w1.frozen? ⟨w.heap.size + 1, 3, none⟩ = false := frozen_of_row _ _ 3 _ _ hz1
  have HX : Hid _ := set4r hz1 (.int .i64 x0) (.int .i64 x1) (.int .i64 x2) (.int .i64 x3)
  have hB1 : Below w.heap.size w w1 := hb0.trans (hb1.mono (by omega))
  have HB : Hid (Below w.heap.size w ((((w1.setCell ⟨w.heap.size + 1, 0, none⟩ (.int .i64 x0)).setCell ⟨w.heap.size + 1, 1, none⟩ (.int .i64 x1)).setCell ⟨w.heap.size + 1, 2, none⟩ (.int .i64 x2)).setCell ⟨w.heap.size + 1, 3, none⟩ (.int .i64 x3))) := below4 (g := w.heap.size + 1) hB1 (by omega) _ _ _ _
  clear hB1 hb1 hz1 hb0 hz c0 HC hs0
  go_wp2
  refine bodyPost_ret (res_cell2 rfl _ _ (w.heap.size + 1) 27 #[.int .i64 x0, .int .i64 x1, .int .i64 x2, .int .i64 x3] (0, 0) _ rfl ?_ Try.underlying27 rfl sizePk) rfl ?_
  · exact HX.out
  · exact ⟨rfl, HB.out⟩

end Go.Proofs.Ytagjdhiicpglaaa
