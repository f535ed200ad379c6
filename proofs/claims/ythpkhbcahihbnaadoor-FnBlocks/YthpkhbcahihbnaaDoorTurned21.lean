/- The program's round of a digest (chapter 21). -/
import Derived.Test.YthpkhbcahihbnaaDoorRotR21
import Derived.Test.YthpkhbcahihbnaaDoorNum24
import Derived.WalkKit
import Derived.WalkLawsBesides
import Derived.WalkSpells
import Derived.OwnWalk
import Derived.BigRegion
import Derived.Great.Walk
namespace Go.Proofs.YthpkhbcahihbnaaDoor
open Go.RowKit Go.PlainAid
set_option maxRecDepth 20000
set_option linter.unusedVariables false
def H8.at8 (s : H8) : Nat → Nat := fun i => s.list.getD i 0
theorem H8.row (s : H8) : rowV .u32 8 s.at8 = #[.int .u32 (s.a : Int), .int .u32 (s.b : Int), .int .u32 (s.c : Int), .int .u32 (s.d : Int), .int .u32 (s.e : Int), .int .u32 (s.f : Int), .int .u32 (s.g : Int), .int .u32 (s.h : Int)] := rfl
theorem sizeSha8 : (Tryd.prog.info? 41).map (·.size) = some 8 := by kernel_rfl
set_option maxHeartbeats 3200000 in
theorem turned_any (s : H8) (k : Nat) (w : World) (hs : s.Ok) (hk : k < 4294967296) :
    Calls Tryd.prog 43 #[.agg (rowV .u32 8 s.at8), .int .u32 (k : Int)] w fun e w' => e = .returned (.agg (rowV .u32 8 (turn8 s k).at8)) ∧ Below w.heap.size w w' := by
  have E6 : Hid (∀ wz, Calls Tryd.prog 54 #[.int .u32 (s.e : Int), .int .i64 (-6)] wz fun e w' => e = .returned (.int .u32 ((rotr s.e 6 : Nat) : Int)) ∧ wz = w') := fun wz => right_any s.e 6 wz hs.e (by decide) (by decide)
  have E11 : Hid (∀ wz, Calls Tryd.prog 54 #[.int .u32 (s.e : Int), .int .i64 (-11)] wz fun e w' => e = .returned (.int .u32 ((rotr s.e 11 : Nat) : Int)) ∧ wz = w') := fun wz => right_any s.e 11 wz hs.e (by decide) (by decide)
  have E25 : Hid (∀ wz, Calls Tryd.prog 54 #[.int .u32 (s.e : Int), .int .i64 (-25)] wz fun e w' => e = .returned (.int .u32 ((rotr s.e 25 : Nat) : Int)) ∧ wz = w') := fun wz => right_any s.e 25 wz hs.e (by decide) (by decide)
  have A2 : Hid (∀ wz, Calls Tryd.prog 54 #[.int .u32 (s.a : Int), .int .i64 (-2)] wz fun e w' => e = .returned (.int .u32 ((rotr s.a 2 : Nat) : Int)) ∧ wz = w') := fun wz => right_any s.a 2 wz hs.a (by decide) (by decide)
  have A13 : Hid (∀ wz, Calls Tryd.prog 54 #[.int .u32 (s.a : Int), .int .i64 (-13)] wz fun e w' => e = .returned (.int .u32 ((rotr s.a 13 : Nat) : Int)) ∧ wz = w') := fun wz => right_any s.a 13 wz hs.a (by decide) (by decide)
  have A22 : Hid (∀ wz, Calls Tryd.prog 54 #[.int .u32 (s.a : Int), .int .i64 (-22)] wz fun e w' => e = .returned (.int .u32 ((rotr s.a 22 : Nat) : Int)) ∧ wz = w') := fun wz => right_any s.a 22 wz hs.a (by decide) (by decide)
  have q1 := u32_and_nat s.e s.f hs.e hs.f
  have q2 : bits .xor .u32 IntKind.u32.max (s.e : Int) = ((s.e ^^^ 4294967295 : Nat) : Int) := by
    have h := u32xor 4294967295 s.e (by decide) hs.e
    rw [Nat.xor_comm] at h; exact h
  have q3 := u32_and_nat (s.e ^^^ 4294967295) s.g (xorLt32 hs.e (by decide)) hs.g
  have q4 := u32xor (s.e &&& s.f) ((s.e ^^^ 4294967295) &&& s.g) (and_lt32 hs.f) (and_lt32 hs.g)
  have q5 := u32xor (rotr s.e 6) (rotr s.e 11) (rotr_lt hs.e 6) (rotr_lt hs.e 11)
  have q6 := u32xor (rotr s.e 6 ^^^ rotr s.e 11) (rotr s.e 25) (xorLt32 (rotr_lt hs.e 6) (rotr_lt hs.e 11)) (rotr_lt hs.e 25)
  have p1 := u32_and_nat s.a s.b hs.a hs.b
  have p2 := u32_and_nat s.a s.c hs.a hs.c
  have p3 := u32xor (s.a &&& s.b) (s.a &&& s.c) (and_lt32 hs.b) (and_lt32 hs.c)
  have p4 := u32_and_nat s.b s.c hs.b hs.c
  have p5 := u32xor ((s.a &&& s.b) ^^^ (s.a &&& s.c)) (s.b &&& s.c) (xorLt32 (and_lt32 hs.b) (and_lt32 hs.c)) (and_lt32 hs.c)
  have p6 := u32xor (rotr s.a 2) (rotr s.a 13) (rotr_lt hs.a 2) (rotr_lt hs.a 13)
  have p7 := u32xor (rotr s.a 2 ^^^ rotr s.a 13) (rotr s.a 22) (xorLt32 (rotr_lt hs.a 2) (rotr_lt hs.a 13)) (rotr_lt hs.a 22)
  have HT : Hid (turn8 s k = ⟨((s.h + k + ((s.e &&& s.f) ^^^ ((s.e ^^^ 4294967295) &&& s.g)) + (rotr s.e 6 ^^^ rotr s.e 11 ^^^ rotr s.e 25)) % 4294967296 + (((s.a &&& s.b) ^^^ (s.a &&& s.c) ^^^ (s.b &&& s.c)) + (rotr s.a 2 ^^^ rotr s.a 13 ^^^ rotr s.a 22)) % 4294967296) % 4294967296, s.a, s.b, s.c, (s.d + (s.h + k + ((s.e &&& s.f) ^^^ ((s.e ^^^ 4294967295) &&& s.g)) + (rotr s.e 6 ^^^ rotr s.e 11 ^^^ rotr s.e 25)) % 4294967296) % 4294967296, s.e, s.f, s.g⟩) := by
    show _ = _
    unfold turn8 one two bigE bigA choose most
    congr 1
    · congr 2 <;> congr 1 <;> omega
    · congr 2; congr 1; omega
  rw [H8.row s]
  generalize (s.e &&& s.f) ^^^ ((s.e ^^^ 4294967295) &&& s.g) = CH at q4 HT
  generalize rotr s.e 6 ^^^ rotr s.e 11 ^^^ rotr s.e 25 = BE at q6 HT
  generalize (s.a &&& s.b) ^^^ (s.a &&& s.c) ^^^ (s.b &&& s.c) = MO at p5 HT
  generalize rotr s.a 2 ^^^ rotr s.a 13 ^^^ rotr s.a 22 = BA at p7 HT
  have HV : Hid (rowV .u32 8 (turn8 s k).at8 = #[.int .u32 (((s.h : Int) + (k : Int) + (CH : Int) + (BE : Int) + ((MO : Int) + (BA : Int))) % 4294967296), .int .u32 (s.a : Int), .int .u32 (s.b : Int), .int .u32 (s.c : Int), .int .u32 (((s.d : Int) + ((s.h : Int) + (k : Int) + (CH : Int) + (BE : Int))) % 4294967296), .int .u32 (s.e : Int), .int .u32 (s.f : Int), .int .u32 (s.g : Int)]) := by
    show _ = _
    rw [H8.row, HT.out]
    have v1 : (((((s.h + k + CH + BE) % 4294967296 + (MO + BA) % 4294967296) % 4294967296 : Nat)) : Int) = ((s.h : Int) + (k : Int) + (CH : Int) + (BE : Int) + ((MO : Int) + (BA : Int))) % 4294967296 := by omega
    have v2 : ((((s.d + (s.h + k + CH + BE) % 4294967296) % 4294967296 : Nat)) : Int) = ((s.d : Int) + ((s.h : Int) + (k : Int) + (CH : Int) + (BE : Int))) % 4294967296 := by omega
    simp only [v1, v2]
  go_enter Tryd.func43, Tryd.ntmps43
  go_wp2_with fail
  go_region
  all_goals
    go_wp2_with fail
    refine Calls.mono (E6.out _) ?_
    rintro e w1 ⟨rfl, rfl⟩
    go_wp2_with fail
    refine Calls.mono (E11.out _) ?_
    rintro e w1 ⟨rfl, rfl⟩
    go_wp2_with fail
    refine Calls.mono (E25.out _) ?_
    rintro e w1 ⟨rfl, rfl⟩
    go_wp2_with fail
    refine Calls.mono (A2.out _) ?_
    rintro e w1 ⟨rfl, rfl⟩
    go_wp2_with fail
    refine Calls.mono (A13.out _) ?_
    rintro e w1 ⟨rfl, rfl⟩
    go_wp2_with fail
    refine Calls.mono (A22.out _) ?_
    rintro e w1 ⟨rfl, rfl⟩
    go_wp2
    refine bodyPost_ret (results_cell_row rfl _ _ (w.heap.size + 1) 41 (rowV .u32 8 (turn8 s k).at8) (0, 0) _ rfl ?_ Tryd.underlying41 rfl (by rw [rowV_size]; exact sizeSha8)) rfl ?_
    · rw [HV.out]
      have h := heap_alloc_new (w.alloc (.cells #[.int .u32 (s.a : Int), .int .u32 (s.b : Int), .int .u32 (s.c : Int), .int .u32 (s.d : Int), .int .u32 (s.e : Int), .int .u32 (s.f : Int), .int .u32 (s.g : Int), .int .u32 (s.h : Int)] 41)) (.cells #[.int .u32 (((s.h : Int) + (k : Int) + (CH : Int) + (BE : Int) + ((MO : Int) + (BA : Int))) % 4294967296), .int .u32 (s.a : Int), .int .u32 (s.b : Int), .int .u32 (s.c : Int), .int .u32 (((s.d : Int) + ((s.h : Int) + (k : Int) + (CH : Int) + (BE : Int))) % 4294967296), .int .u32 (s.e : Int), .int .u32 (s.f : Int), .int .u32 (s.g : Int)] 41)
      have hz : ∀ o : Obj, (w.alloc o).heap.size = w.heap.size + 1 := fun o => by simp
      rw [hz] at h
      exact h
    · refine ⟨rfl, ?_⟩
      have h := ((Below.refl w.heap.size w).alloc (Nat.le_refl _) (.cells #[.int .u32 (s.a : Int), .int .u32 (s.b : Int), .int .u32 (s.c : Int), .int .u32 (s.d : Int), .int .u32 (s.e : Int), .int .u32 (s.f : Int), .int .u32 (s.g : Int), .int .u32 (s.h : Int)] 41)).alloc (by simp) (.cells #[.int .u32 (((s.h : Int) + (k : Int) + (CH : Int) + (BE : Int) + ((MO : Int) + (BA : Int))) % 4294967296), .int .u32 (s.a : Int), .int .u32 (s.b : Int), .int .u32 (s.c : Int), .int .u32 (((s.d : Int) + ((s.h : Int) + (k : Int) + (CH : Int) + (BE : Int))) % 4294967296), .int .u32 (s.e : Int), .int .u32 (s.f : Int), .int .u32 (s.g : Int)] 41)
      exact ⟨h.os, h.tape, h.output, h.size, h.block⟩
end Go.Proofs.YthpkhbcahihbnaaDoor
