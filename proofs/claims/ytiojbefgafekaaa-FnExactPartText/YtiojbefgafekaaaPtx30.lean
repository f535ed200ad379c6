/- A part's text (chapter 30): PartText of both sides. -/
import Derived.Test.YtiojbefgafekaaaPiece30
import Derived.Test.YtiojbefgafekaaaVarW
import Derived.Test.YtiojbefgafekaaaAppL
import Derived.Test.YtiojbefgafekaaaHeldQ
import Derived.WalkKit
import Derived.WalkLawsBesides
import Derived.WalkSpells
import Derived.OwnWalk
import Derived.Lib.AppendStr
import Derived.PlainAid
import Derived.Deep.Cut
import Derived.Test.YtiojbefgafekaaaHexB
import Derived.Test.YtiojbefgafekaaaBytes
import Derived.Test.YtiojbefgafekaaaPlainRead
namespace Go.Proofs.Ytiojbefgafekaaa
open Go.RowKit Go.PlainAid
set_option maxRecDepth 20000
set_option linter.unusedVariables false
theorem strCells_nums {xs : List Int} (h : ∀ x ∈ xs, 0 ≤ x ∧ x ≤ 255) : Lib.strCells (strOfNums xs) = xs.map (Value.int .u8) := by
  unfold Lib.strCells
  rw [strOfNums_data, List.map_map]
  apply List.map_congr_left
  intro x hx
  have := h x hx
  simp only [Function.comp, UInt8.toNat_ofNat']
  congr 1
  omega
theorem appV_any (base : Nat) (v : Value) (xs : List Int) (n : Nat) (w : World) (hn : n ≤ 1000000000) (hx : xs.length ≤ 100000) (hb : base ≤ w.heap.size) (hown : w.ownsRow base 5 1 v xs.length (xs.map (Value.int .u8))) :
    Calls Try.prog 30 #[v, .int .i64 (n : Int)] w fun e w' => ∃ v', e = .returned v' ∧ w'.ownsRow base 5 1 v' (xs ++ vb n).length ((xs ++ vb n).map (Value.int .u8)) ∧ w.grownBy w' v.ownBlock ∧ Lies w v v' := by
  obtain ⟨i0, hi, hz0, hz1, hz2⟩ := info_parts Try.info5
  have hlen := vb_len10 n (by omega)
  have HR : Hid _ := vb_range n
  have HSZ : Hid ((strOfNums (vb n)).size = (vb n).length) := strOfNums_size _
  go_enter Try.func30, Try.ntmps30
  go_wp2_with fail
  refine (implVar_yes n _ hn).mono ?_
  rintro e w1 ⟨rfl, hb1⟩
  have ho1 := own_next hown hb1
  have hs1 := hb1.size
  go_wp2_with (at_builtin; refine wpList_append_string_at rfl _ _ 51 9 rfl base 5 i0 Try.underlying51 Try.underlying9 hi hz0 hz1 hz2 _ _ _ rfl ho1 _ rfl ?c1 ?c2 ?c3 ?_)
  case c1 => unfold maxLen; rw [HSZ.out]; omega
  case c2 => rw [HSZ.out]; omega
  case c3 => omega
  intro v' w2 ho2 hg2 hl2
  rw [strCells_nums HR.out, HSZ.out] at ho2
  have HO : Hid (w2.ownsRow base 5 1 v' (xs ++ vb n).length ((xs ++ vb n).map (Value.int .u8))) := own_snoc ho2
  have HB : Hid (w.grownBy w2 v.ownBlock ∧ Lies w v v') := ⟨gb_then (gb_of hb1 _) (fun g hg => .inl hg) hg2, hl2.back hs1⟩
  clear ho2 hg2 hl2 ho1 hb1 hown
  go_wp2
  go_ret
  exact ⟨_, rfl, HO.out, HB.out.1, HB.out.2⟩
def vt (n : Nat) : ByteArray := strOfNums (vb n)
theorem vt_size {n : Nat} (h : n ≤ 9223372036854775807) : (vt n).size ≤ 10 := by unfold vt; rw [strOfNums_size]; exact vb_len10 n h
def ptOk (x : Pt) : Bool := pcOk x && decide (x.t.size ≤ 1000)
def ptB (n a b : Nat) (t : ByteArray) : ByteArray := vt n ++ vt a ++ vt b ++ vt t.size ++ t
def ptT (x : Pt) : ByteArray := if ptOk x = true then ptB x.n.toNat x.a.toNat x.b.toNat x.t else ByteArray.empty
theorem ptOk_no {x : Pt} (h : ptOk x = false) : pcOk x = false ∨ pcOk x = true ∧ 1000 < x.t.size := by
  unfold ptOk at h
  cases hp : pcOk x with
  | false => exact .inl rfl
  | true => rw [hp, Bool.true_and] at h; exact .inr ⟨rfl, by have := of_decide_eq_false h; omega⟩
set_option maxHeartbeats 800000 in
theorem specPtx_no (x : Pt) (w : World) (hs : x.t.size ≤ 1048576) (h : ptOk x = false) :
    Calls Try.prog 12 #[.agg #[.int .i64 x.n, .int .i64 x.a, .int .i64 x.b, .string x.t]] w fun e w' => e = .returned (.tuple #[.string ByteArray.empty, .bool false]) ∧ Below w.heap.size w w' := by
  have H0 : Hid (∀ wz, _) := fun wz => specPiece_any x wz hs
  have HQ := ptOk_no h
  clear h
  obtain ⟨n, a, b, t⟩ := x
  simp only [] at hs H0
  have hA : (w.alloc (.cells #[.int .i64 n, .int .i64 a, .int .i64 b, .string t] 26)).heap[w.heap.size]? = some (.cells #[.int .i64 n, .int .i64 a, .int .i64 b, .string t] 26 (0, 0)) := heap_alloc_new w _
  have hB : Below w.heap.size w (w.alloc (.cells #[.int .i64 n, .int .i64 a, .int .i64 b, .string t] 26)) := (Below.refl _ _).alloc (Nat.le_refl _) _
  have hlt : w.heap.size < (w.alloc (.cells #[.int .i64 n, .int .i64 a, .int .i64 b, .string t] 26)).heap.size := by simp
  rcases HQ with hq | ⟨hq, hq2⟩
  · rw [hq] at H0
    clear hq
    go_enter Try.func12, Try.ntmps12
    go_wp2_with fail
    refine Calls.mono (H0.out _) ?_
    rintro e w1 ⟨rfl, hb1⟩
    have hB1 := hB.trans (hb1.mono hB.size)
    clear hb1
    go_wp2
    go_ret2
    exact ⟨rfl, hB1⟩
  · rw [hq] at H0
    clear hq
    have q1 : (1000 : Int) < ((t.size : Nat) : Int) := by simp only [] at hq2; omega
    clear hq2
    go_enter Try.func12, Try.ntmps12
    go_wp2_with fail
    refine Calls.mono (H0.out _) ?_
    rintro e w1 ⟨rfl, hb1⟩
    have c3 : w1.cell? ⟨w.heap.size, 3, none⟩ = some (.string t) := ((hb1.cell (p := ⟨w.heap.size, 3, none⟩) hlt).trans (cell_of_row _ _ 3 _ _ _ hA)).trans rfl
    have hB1 := hB.trans (hb1.mono hB.size)
    clear hb1
    go_wp2
    go_ret2
    exact ⟨rfl, hB1⟩
set_option maxHeartbeats 800000 in
theorem implPtx_no (x : Pt) (w : World) (hs : x.t.size ≤ 1048576) (h : ptOk x = false) :
    Calls Try.prog 13 #[.agg #[.int .i64 x.n, .int .i64 x.a, .int .i64 x.b, .string x.t]] w fun e w' => e = .returned (.tuple #[.string ByteArray.empty, .bool false]) ∧ Below w.heap.size w w' := by
  have H0 : Hid (∀ wz, _) := fun wz => implPiece_any x wz hs
  have HQ := ptOk_no h
  clear h
  obtain ⟨n, a, b, t⟩ := x
  simp only [] at hs H0
  have hA : (w.alloc (.cells #[.int .i64 n, .int .i64 a, .int .i64 b, .string t] 26)).heap[w.heap.size]? = some (.cells #[.int .i64 n, .int .i64 a, .int .i64 b, .string t] 26 (0, 0)) := heap_alloc_new w _
  have hB : Below w.heap.size w (w.alloc (.cells #[.int .i64 n, .int .i64 a, .int .i64 b, .string t] 26)) := (Below.refl _ _).alloc (Nat.le_refl _) _
  have hlt : w.heap.size < (w.alloc (.cells #[.int .i64 n, .int .i64 a, .int .i64 b, .string t] 26)).heap.size := by simp
  rcases HQ with hq | ⟨hq, hq2⟩
  · rw [hq] at H0
    clear hq
    go_enter Try.func13, Try.ntmps13
    go_wp2_with fail
    refine Calls.mono (H0.out _) ?_
    rintro e w1 ⟨rfl, hb1⟩
    have hB1 := hB.trans (hb1.mono hB.size)
    clear hb1
    go_wp2
    go_ret2
    exact ⟨rfl, hB1⟩
  · rw [hq] at H0
    clear hq
    have q1 : (1000 : Int) < ((t.size : Nat) : Int) := by simp only [] at hq2; omega
    clear hq2
    go_enter Try.func13, Try.ntmps13
    go_wp2_with fail
    refine Calls.mono (H0.out _) ?_
    rintro e w1 ⟨rfl, hb1⟩
    have c3 : w1.cell? ⟨w.heap.size, 3, none⟩ = some (.string t) := ((hb1.cell (p := ⟨w.heap.size, 3, none⟩) hlt).trans (cell_of_row _ _ 3 _ _ _ hA)).trans rfl
    have hB1 := hB.trans (hb1.mono hB.size)
    clear hb1
    go_wp2
    go_ret2
    exact ⟨rfl, hB1⟩
set_option maxHeartbeats 1600000 in
theorem specPtx_yes (n a b : Nat) (t : ByteArray) (w : World) (hs : t.size ≤ 1000) (hn : n ≤ 65535) (ha : a ≤ 4000) (hb : b ≤ 4000) (h : pcOk ⟨n, a, b, t⟩ = true) :
    Calls Try.prog 12 #[.agg #[.int .i64 n, .int .i64 a, .int .i64 b, .string t]] w fun e w' => e = .returned (.tuple #[.string (ptB n a b t), .bool true]) ∧ Below w.heap.size w w' := by
  have H0 : Hid (∀ wz, _) := fun wz => specPiece_any ⟨n, a, b, t⟩ wz (by simp only []; omega)
  rw [h] at H0
  clear h
  have H1 : Hid (∀ wz, _) := fun wz => l01Var_any n wz (by omega)
  have H2 : Hid (∀ wz, _) := fun wz => l01Var_any a wz (by omega)
  have H3 : Hid (∀ wz, _) := fun wz => l01Var_any b wz (by omega)
  have H4 : Hid (∀ wz, _) := fun wz => l01Var_any t.size wz (by omega)
  have HE : Hid (ptB n a b t = strOfNums (vb n) ++ strOfNums (vb a) ++ strOfNums (vb b) ++ strOfNums (vb t.size) ++ t) := rfl
  have z1 : (strOfNums (vb n)).size ≤ 10 := vt_size (by omega)
  have z2 : (strOfNums (vb a)).size ≤ 10 := vt_size (by omega)
  have z3 : (strOfNums (vb b)).size ≤ 10 := vt_size (by omega)
  have z4 : (strOfNums (vb t.size)).size ≤ 10 := vt_size (by omega)
  generalize strOfNums (vb n) = s1 at H1 HE z1
  generalize strOfNums (vb a) = s2 at H2 HE z2
  generalize strOfNums (vb b) = s3 at H3 HE z3
  generalize strOfNums (vb t.size) = s4 at H4 HE z4
  have y1 : (s1 ++ s2).size = s1.size + s2.size := sz_app _ _
  have y2 : (s1 ++ s2 ++ s3).size = s1.size + s2.size + s3.size := by rw [sz_app, y1]
  have y3 : (s1 ++ s2 ++ s3 ++ s4).size = s1.size + s2.size + s3.size + s4.size := by rw [sz_app, y2]
  have hA : (w.alloc (.cells #[.int .i64 n, .int .i64 a, .int .i64 b, .string t] 26)).heap[w.heap.size]? = some (.cells #[.int .i64 n, .int .i64 a, .int .i64 b, .string t] 26 (0, 0)) := heap_alloc_new w _
  have hB : Below w.heap.size w (w.alloc (.cells #[.int .i64 n, .int .i64 a, .int .i64 b, .string t] 26)) := (Below.refl _ _).alloc (Nat.le_refl _) _
  have hlt : w.heap.size < (w.alloc (.cells #[.int .i64 n, .int .i64 a, .int .i64 b, .string t] 26)).heap.size := by simp
  have q1 : ¬ (1000 : Int) < ((t.size : Nat) : Int) := by omega
  go_enter Try.func12, Try.ntmps12
  go_wp2_with fail
  refine Calls.mono (H0.out _) ?_
  rintro e w1 ⟨rfl, hb1⟩
  have hA1 : w1.heap[w.heap.size]? = some (.cells #[.int .i64 n, .int .i64 a, .int .i64 b, .string t] 26 (0, 0)) := (hb1.block _ hlt).trans hA
  have c3 : w1.cell? ⟨w.heap.size, 3, none⟩ = some (.string t) := (cell_of_row _ _ 3 _ _ _ hA1).trans rfl
  have hB1 := hB.trans (hb1.mono hB.size)
  clear hb1 hA hB hlt
  obtain ⟨S, hS0, hNE, q0, p1, p2, p3, HK⟩ : ∃ S : World → Prop, S w1.drew ∧ Nonempty (Hw S) ∧ (∀ s : Hw S, s.w.cell? ⟨w.heap.size, 0, none⟩ = some (.int .i64 n)) ∧ (∀ s : Hw S, s.w.cell? ⟨w.heap.size, 1, none⟩ = some (.int .i64 a)) ∧ (∀ s : Hw S, s.w.cell? ⟨w.heap.size, 2, none⟩ = some (.int .i64 b)) ∧ (∀ s : Hw S, s.w.cell? ⟨w.heap.size, 3, none⟩ = some (.string t)) ∧ Hid ((∀ s : Hw S, ∀ w', Below s.w.heap.size s.w w' → S w') ∧ (∀ w', S w' → Below w.heap.size w w')) := by
    have hS : w1.drew.heap[w.heap.size]? = some (.cells #[.int .i64 n, .int .i64 a, .int .i64 b, .string t] 26 (0, 0)) ∧ Below w.heap.size w w1.drew := ⟨hA1, hB1.drew⟩
    refine ⟨fun wz => wz.heap[w.heap.size]? = some (.cells #[.int .i64 n, .int .i64 a, .int .i64 b, .string t] 26 (0, 0)) ∧ Below w.heap.size w wz, hS, ⟨⟨_, hS⟩⟩, fun s => (cell_of_row _ _ 0 _ _ _ s.ok.1).trans rfl, fun s => (cell_of_row _ _ 1 _ _ _ s.ok.1).trans rfl, fun s => (cell_of_row _ _ 2 _ _ _ s.ok.1).trans rfl, fun s => (cell_of_row _ _ 3 _ _ _ s.ok.1).trans rfl, fun s w' hb => ⟨(hb.block _ (Array.getElem?_eq_some_iff.1 s.ok.1).1).trans s.ok.1, s.ok.2.trans (hb.mono s.ok.2.size)⟩, fun w' h => h.2⟩
  clear hA1 hB1
  go_upto_region 3 with fail
  refine wp_region_held (S := S) (by kernel_rfl) (by kernel_rfl) hS0 ?_
  repeat (go_big_quiet_step (first | (go_at_call 29; with_reducible exact Calls.held (H1.out _) (HK.out.1 _)) | (go_at_call 29; with_reducible exact Calls.held (H2.out _) (HK.out.1 _)) | (go_at_call 29; with_reducible exact Calls.held (H3.out _) (HK.out.1 _)) | (go_at_call 29; with_reducible exact Calls.held (H4.out _) (HK.out.1 _))))
  refine wpQuiet_nil ?_
  rintro _ ⟨sw, rfl⟩
  have hB2 := HK.out.2 _ sw.ok
  clear HK q0 p1 p2 p3 hS0
  go_wp2
  go_ret2
  exact ⟨by rw [HE.out]; rfl, hB2⟩
/-- The bytes of the first k of four numbers. -/
def pre (n a b z k : Nat) : List Int := match k with | 0 => [] | 1 => vb n | 2 => vb n ++ vb a | 3 => vb n ++ vb a ++ vb b | _ => vb n ++ vb a ++ vb b ++ vb z
theorem strCells_all (t : ByteArray) : Lib.strCells t = (nums t.data.toList).map (Value.int .u8) := by
  unfold Lib.strCells nums
  rw [List.map_map]
  rfl
theorem strOf_nums (t : ByteArray) : strOfNums (nums t.data.toList) = t := by
  apply Go.WideShapes.bytes_inj
  rw [strOfNums_data]
  exact (strOfNums_eq (fun x hx => by
    unfold nums at hx
    obtain ⟨b, _, rfl⟩ := List.mem_map.1 hx
    have := b.toNat_lt
    omega)).2 rfl
theorem strApp (xs ys : List Int) : strOfNums (xs ++ ys) = strOfNums xs ++ strOfNums ys := by
  apply Go.WideShapes.bytes_inj
  rw [dat_app, strOfNums_data, strOfNums_data, strOfNums_data, List.map_append]
set_option maxHeartbeats 3200000 in
theorem implPtx_yes (n a b : Nat) (t : ByteArray) (w : World) (hs : t.size ≤ 1000) (hn : n ≤ 65535) (ha : a ≤ 4000) (hb : b ≤ 4000) (h : pcOk ⟨n, a, b, t⟩ = true) :
    Calls Try.prog 13 #[.agg #[.int .i64 n, .int .i64 a, .int .i64 b, .string t]] w fun e w' => e = .returned (.tuple #[.string (ptB n a b t), .bool true]) ∧ Below w.heap.size w w' := by
  obtain ⟨i0, hi, hz0, hz1, hz2⟩ := info_parts Try.info5
  have H0 : Hid (∀ wz, _) := fun wz => implPiece_any ⟨n, a, b, t⟩ wz (by simp only []; omega)
  rw [h] at H0
  clear h
  have HE : Hid (ptB n a b t = strOfNums (pre n a b t.size 4) ++ t) := by
    show vt n ++ vt a ++ vt b ++ vt t.size ++ t = strOfNums (vb n ++ vb a ++ vb b ++ vb t.size) ++ t
    rw [strApp, strApp, strApp]
    rfl
  have HR : Hid (∀ x ∈ pre n a b t.size 4, 0 ≤ x ∧ x ≤ 255) := by
    intro x hx
    have hx : x ∈ vb n ++ vb a ++ vb b ++ vb t.size := hx
    simp only [List.mem_append] at hx
    rcases hx with ((hx | hx) | hx) | hx
    · exact vb_range n x hx
    · exact vb_range a x hx
    · exact vb_range b x hx
    · exact vb_range _ x hx
  have HL : Hid (∀ k, (pre n a b t.size k).length ≤ 40) := by
    intro k
    have l1 := vb_len10 n (by omega)
    have l2 := vb_len10 a (by omega)
    have l3 := vb_len10 b (by omega)
    have l4 := vb_len10 t.size (by omega)
    unfold pre
    split <;> (try simp only [List.length_append, List.length_nil]) <;> omega
  have HP0 : Hid (pre n a b t.size 0 ++ vb n = pre n a b t.size 1) := List.nil_append _
  have HP1 : Hid (pre n a b t.size 1 ++ vb a = pre n a b t.size 2) := rfl
  have HP2 : Hid (pre n a b t.size 2 ++ vb b = pre n a b t.size 3) := rfl
  have HP3 : Hid (pre n a b t.size 3 ++ vb t.size = pre n a b t.size 4) := rfl
  have HN : Hid (pre n a b t.size 0 = []) := rfl
  have HV0 : Hid (∀ base v xs wz, _) := fun base v xs wz => appV_any base v xs n wz (by omega)
  have HV1 : Hid (∀ base v xs wz, _) := fun base v xs wz => appV_any base v xs a wz (by omega)
  have HV2 : Hid (∀ base v xs wz, _) := fun base v xs wz => appV_any base v xs b wz (by omega)
  have HV3 : Hid (∀ base v xs wz, _) := fun base v xs wz => appV_any base v xs t.size wz (by omega)
  generalize pre n a b t.size = P at HE HR HL HP0 HP1 HP2 HP3 HN
  have hA : (w.alloc (.cells #[.int .i64 n, .int .i64 a, .int .i64 b, .string t] 26)).heap[w.heap.size]? = some (.cells #[.int .i64 n, .int .i64 a, .int .i64 b, .string t] 26 (0, 0)) := heap_alloc_new w _
  have hB : Below w.heap.size w (w.alloc (.cells #[.int .i64 n, .int .i64 a, .int .i64 b, .string t] 26)) := (Below.refl _ _).alloc (Nat.le_refl _) _
  have hlt : w.heap.size < (w.alloc (.cells #[.int .i64 n, .int .i64 a, .int .i64 b, .string t] 26)).heap.size := by simp
  have q1 : ¬ (1000 : Int) < ((t.size : Nat) : Int) := by omega
  clear hn ha hb
  have ix0 : ∀ w : World, (Instr.index 52 (.agg #[.int .i64 (n : Int), .int .i64 (a : Int), .int .i64 (b : Int), .int .i64 ((t.size : Nat) : Int)]) (.int .i64 0)).run Try.prog w = .ok (.int .i64 (n : Int)) w := fun _ => by kernel_rfl
  have ix1 : ∀ w : World, (Instr.index 52 (.agg #[.int .i64 (n : Int), .int .i64 (a : Int), .int .i64 (b : Int), .int .i64 ((t.size : Nat) : Int)]) (.int .i64 1)).run Try.prog w = .ok (.int .i64 (a : Int)) w := fun _ => by kernel_rfl
  have ix2 : ∀ w : World, (Instr.index 52 (.agg #[.int .i64 (n : Int), .int .i64 (a : Int), .int .i64 (b : Int), .int .i64 ((t.size : Nat) : Int)]) (.int .i64 2)).run Try.prog w = .ok (.int .i64 (b : Int)) w := fun _ => by kernel_rfl
  have ix3 : ∀ w : World, (Instr.index 52 (.agg #[.int .i64 (n : Int), .int .i64 (a : Int), .int .i64 (b : Int), .int .i64 ((t.size : Nat) : Int)]) (.int .i64 3)).run Try.prog w = .ok (.int .i64 ((t.size : Nat) : Int)) w := fun _ => by kernel_rfl
  go_enter Try.func13, Try.ntmps13
  go_wp2_with fail
  refine Calls.mono (H0.out _) ?_
  rintro e w1 ⟨rfl, hb1⟩
  have hA1 : w1.heap[w.heap.size]? = some (.cells #[.int .i64 n, .int .i64 a, .int .i64 b, .string t] 26 (0, 0)) := (hb1.block _ hlt).trans hA
  have c0 : w1.cell? ⟨w.heap.size, 0, none⟩ = some (.int .i64 n) := (cell_of_row _ _ 0 _ _ _ hA1).trans rfl
  have c1 : w1.cell? ⟨w.heap.size, 1, none⟩ = some (.int .i64 a) := (cell_of_row _ _ 1 _ _ _ hA1).trans rfl
  have c2 : w1.cell? ⟨w.heap.size, 2, none⟩ = some (.int .i64 b) := (cell_of_row _ _ 2 _ _ _ hA1).trans rfl
  have c3 : w1.cell? ⟨w.heap.size, 3, none⟩ = some (.string t) := (cell_of_row _ _ 3 _ _ _ hA1).trans rfl
  have hlt1 : w.heap.size < w1.heap.size := (Array.getElem?_eq_some_iff.1 hA1).1
  have HB1 : Hid (Below w.heap.size w w1) := hB.trans (hb1.mono hB.size)
  have HA1 : Hid _ := hA1
  clear hb1 hA hB hlt hA1 H0
  go_wp2
  clear c0 c1 c2 c3
  go_loopw [4, 26] (fun v i wr => ∃ k : Nat, k ≤ 4 ∧ i = .int .i64 (k : Int) ∧ wr.ownsRow w1.heap.size 5 1 v (P k).length ((P k).map (Value.int .u8)) ∧ Below w1.heap.size w1 wr)
    (fun _ i _ => 4 - (intOf i).toNat)
  case atStart => exact ⟨0, by omega, rfl, by rw [HN.out]; exact World.ownsRow_nil _ _ _ _, Below.refl _ _⟩
  case round =>
    obtain ⟨k, hk, rfl, hown, hbel⟩ := hrel
    have hsz := hbel.size
    rcases (show k = 0 ∨ k = 1 ∨ k = 2 ∨ k = 3 ∨ k = 4 by omega) with rfl | rfl | rfl | rfl | rfl
    · have HO : Hid (World.ownsRow _ _ _ _ _ _ _) := hown
      have hl4 := HL.out 0
      clear hown
      go_wp2_with fail
      refine Calls.mono (HV0.out w1.heap.size _ _ _ (by omega) (by omega) HO.out) ?_
      rintro e w2 ⟨v', rfl, ho2, hg2, hl2⟩
      have hB2 : Below w1.heap.size w1 w2 := hbel.grown hg2 hsz (fun k hk => (HO.out.lt k hk).1)
      rw [HP0.out] at ho2
      clear hg2 hl2 hbel HO
      go_wp2
      go_roundw
      case rel => exact ⟨1, by omega, by go_num, ho2, hB2⟩
      case measure => simp [intOf]
    · have HO : Hid (World.ownsRow _ _ _ _ _ _ _) := hown
      have hl4 := HL.out 1
      clear hown
      go_wp2_with fail
      refine Calls.mono (HV1.out w1.heap.size _ _ _ (by omega) (by omega) HO.out) ?_
      rintro e w2 ⟨v', rfl, ho2, hg2, hl2⟩
      have hB2 : Below w1.heap.size w1 w2 := hbel.grown hg2 hsz (fun k hk => (HO.out.lt k hk).1)
      rw [HP1.out] at ho2
      clear hg2 hl2 hbel HO
      go_wp2
      go_roundw
      case rel => exact ⟨2, by omega, by go_num, ho2, hB2⟩
      case measure => simp [intOf]
    · have HO : Hid (World.ownsRow _ _ _ _ _ _ _) := hown
      have hl4 := HL.out 2
      clear hown
      go_wp2_with fail
      refine Calls.mono (HV2.out w1.heap.size _ _ _ (by omega) (by omega) HO.out) ?_
      rintro e w2 ⟨v', rfl, ho2, hg2, hl2⟩
      have hB2 : Below w1.heap.size w1 w2 := hbel.grown hg2 hsz (fun k hk => (HO.out.lt k hk).1)
      rw [HP2.out] at ho2
      clear hg2 hl2 hbel HO
      go_wp2
      go_roundw
      case rel => exact ⟨3, by omega, by go_num, ho2, hB2⟩
      case measure => simp [intOf]
    · have HO : Hid (World.ownsRow _ _ _ _ _ _ _) := hown
      have hl4 := HL.out 3
      clear hown
      go_wp2_with fail
      refine Calls.mono (HV3.out w1.heap.size _ _ _ (by omega) (by omega) HO.out) ?_
      rintro e w2 ⟨v', rfl, ho2, hg2, hl2⟩
      have hB2 : Below w1.heap.size w1 w2 := hbel.grown hg2 hsz (fun k hk => (HO.out.lt k hk).1)
      rw [HP3.out] at ho2
      clear hg2 hl2 hbel HO
      go_wp2
      go_roundw
      case rel => exact ⟨4, by omega, by go_num, ho2, hB2⟩
      case measure => simp [intOf]
    · have HO : Hid (World.ownsRow _ _ _ _ _ _ _) := hown
      have hA4 : wr.heap[w.heap.size]? = some (.cells #[.int .i64 n, .int .i64 a, .int .i64 b, .string t] 26 (0, 0)) := (hbel.block _ hlt1).trans HA1.out
      have c3 : wr.cell? ⟨w.heap.size, 3, none⟩ = some (.string t) := (cell_of_row _ _ 3 _ _ _ hA4).trans rfl
      have HB4 : Hid (Below w.heap.size w wr) := HB1.out.trans (hbel.mono HB1.out.size)
      have hl4 := HL.out 4
      clear hown hA4
      go_wp2_with (at_builtin; refine wpList_append_string_at rfl _ _ 51 9 rfl w1.heap.size 5 i0 Try.underlying51 Try.underlying9 hi hz0 hz1 hz2 _ _ _ rfl HO.out _ rfl ?c1 ?c2 ?c3 ?_)
      case c1 => unfold maxLen; omega
      case c2 => omega
      case c3 => omega
      intro v' w2 ho2 hg2 hl2
      have hB2 : Below w1.heap.size w1 w2 := hbel.grown hg2 hsz (fun k hk => (HO.out.lt k hk).1)
      rw [strCells_all] at ho2
      have ho3 : w2.ownsRow w1.heap.size 5 1 v' ((P 4).length + t.size) (((P 4) ++ nums t.data.toList).map (Value.int .u8)) := by rw [List.map_append]; exact ho2
      have hc0 := conv_own w2 51 9 5 Try.underlying51 Try.underlying5 Try.underlying9 (P := Try.prog) ho3
      have hc : (convert 51 9 v').run Try.prog w2 = .ok (.string (strOfNums (P 4) ++ t)) w2 := by rw [hc0, strApp, strOf_nums]
      clear hc0 ho3
      have HB5 : Hid (Below w.heap.size w w2) := HB1.out.trans (hB2.mono HB1.out.size)
      clear ho2 hg2 hl2 hB2 HB4 HO
      go_wp2
      go_ret2
      exact ⟨by rw [HE.out]; rfl, HB5.out⟩
theorem specPtx_any (x : Pt) (w : World) (hs : x.t.size ≤ 1048576) :
    Calls Try.prog 12 #[.agg #[.int .i64 x.n, .int .i64 x.a, .int .i64 x.b, .string x.t]] w fun e w' => e = .returned (.tuple #[.string (ptT x), .bool (ptOk x)]) ∧ Below w.heap.size w w' := by
  cases h : ptOk x with
  | false =>
    have e : ptT x = ByteArray.empty := by unfold ptT; rw [if_neg (by rw [h]; simp)]
    rw [e]; exact specPtx_no x w hs h
  | true =>
    have e : ptT x = ptB x.n.toNat x.a.toNat x.b.toNat x.t := by unfold ptT; rw [if_pos h]
    rw [e]
    obtain ⟨n, a, b, t⟩ := x
    have hp : pcOk ⟨n, a, b, t⟩ = true ∧ t.size ≤ 1000 := by
      unfold ptOk at h
      rw [Bool.and_eq_true] at h
      exact ⟨h.1, of_decide_eq_true h.2⟩
    have hq := of_decide_eq_true hp.1
    simp only [] at hq
    obtain ⟨n, rfl⟩ := Int.eq_ofNat_of_zero_le hq.1.1
    obtain ⟨a, rfl⟩ := Int.eq_ofNat_of_zero_le hq.2.1.1
    obtain ⟨b, rfl⟩ := Int.eq_ofNat_of_zero_le hq.2.2.2.1
    exact specPtx_yes n a b t w hp.2 (by omega) (by omega) (by omega) hp.1
theorem implPtx_any (x : Pt) (w : World) (hs : x.t.size ≤ 1048576) :
    Calls Try.prog 13 #[.agg #[.int .i64 x.n, .int .i64 x.a, .int .i64 x.b, .string x.t]] w fun e w' => e = .returned (.tuple #[.string (ptT x), .bool (ptOk x)]) ∧ Below w.heap.size w w' := by
  cases h : ptOk x with
  | false =>
    have e : ptT x = ByteArray.empty := by unfold ptT; rw [if_neg (by rw [h]; simp)]
    rw [e]; exact implPtx_no x w hs h
  | true =>
    have e : ptT x = ptB x.n.toNat x.a.toNat x.b.toNat x.t := by unfold ptT; rw [if_pos h]
    rw [e]
    obtain ⟨n, a, b, t⟩ := x
    have hp : pcOk ⟨n, a, b, t⟩ = true ∧ t.size ≤ 1000 := by
      unfold ptOk at h
      rw [Bool.and_eq_true] at h
      exact ⟨h.1, of_decide_eq_true h.2⟩
    have hq := of_decide_eq_true hp.1
    simp only [] at hq
    obtain ⟨n, rfl⟩ := Int.eq_ofNat_of_zero_le hq.1.1
    obtain ⟨a, rfl⟩ := Int.eq_ofNat_of_zero_le hq.2.1.1
    obtain ⟨b, rfl⟩ := Int.eq_ofNat_of_zero_le hq.2.2.2.1
    exact implPtx_yes n a b t w hp.2 (by omega) (by omega) (by omega) hp.1
end Go.Proofs.Ytiojbefgafekaaa
