/- LabelOf of both sides (chapter 23). -/
import Derived.Test.YtimkkibbcbkeiaaHigh21
import Derived.Test.YtimkkibbcbkeiaaIn01
import Derived.WalkKit
import Derived.WalkLawsBesides
import Derived.WalkSpells
namespace Go.Proofs.Ytimkkibbcbkeiaa
open Go.RowKit Go.PlainAid
set_option maxRecDepth 20000
set_option linter.unusedVariables false
def tlsT : ByteArray := ⟨#[116, 108, 115, 49, 51, 32]⟩
/-- One byte. -/
def oneT (b : Nat) : ByteArray := strOfNums [((b % 256 : Nat) : Int)]
def lenT (t : ByteArray) : ByteArray := oneT t.size ++ t
theorem oneT_size (b : Nat) : (oneT b).size = 1 := by unfold oneT; rw [strOfNums_size]; rfl
theorem lenT_size (t : ByteArray) : (lenT t).size = t.size + 1 := by unfold lenT; rw [sz_app, oneT_size]; omega
def labOk (l s : ByteArray) (n : Int) : Bool := decide ((0 ≤ n ∧ n ≤ 65535) ∧ l.size ≤ 249 ∧ s.size ≤ 255)
def labT (l s : ByteArray) (n : Int) : ByteArray := if labOk l s n = true then strOfNums (bytesV 2 (highB n.toNat 2)) ++ lenT (tlsT ++ l) ++ lenT s else ByteArray.empty
theorem high2 (n : Nat) : bytesV 2 (highB n 2) = [((n / 256 % 256 : Nat) : Int), ((n % 256 : Nat) : Int)] := by
  simp [bytesV, highB, lowB, List.range_succ]
theorem withLen_any (t : ByteArray) (w : World) (ht : t.size ≤ 255) :
    Calls Try.prog 8 #[.string t] w fun e w' => e = .returned (.string (lenT t)) ∧ Below w.heap.size w w' := by
  have hw : IntKind.u8.wrap ((t.size : Nat) : Int) = ((t.size : Nat) : Int) := by rw [IntKind.wrap_u8']; omega
  have hA : RowAt (w.alloc (.cells #[.int .u8 ((t.size : Nat) : Int)] 5)) w.heap.size 5 .u8 1 (fun _ => t.size) := heap_alloc_new w _
  have hc := conv_row (c := 1) hA
  have HE : Hid (lenT t = strOfNums (bytesV 1 (fun _ => t.size)) ++ t) := by
    show _ = _
    unfold lenT oneT
    rw [show bytesV 1 (fun _ => t.size) = [((t.size : Nat) : Int)] from rfl, Nat.mod_eq_of_lt (by omega)]
  have hz : (strOfNums (bytesV 1 (fun _ => t.size))).size = 1 := strOf_size _ _
  have HB : Hid (Below w.heap.size w (w.alloc (.cells #[.int .u8 ((t.size : Nat) : Int)] 5))) := (Below.refl _ _).alloc (Nat.le_refl _) _
  generalize strOfNums (bytesV 1 (fun _ => t.size)) = o at hc HE hz
  clear hA
  go_enter Try.func8, Try.ntmps8
  go_wp2
  go_ret
  exact ⟨by rw [HE.out]; rfl, HB.out⟩
set_option maxHeartbeats 1600000 in
theorem implLabel_yes (l s : ByteArray) (n : Nat) (w : World) (hn : n ≤ 65535) (hl : l.size ≤ 249) (hs : s.size ≤ 255) :
    Calls Try.prog 5 #[.string l, .string s, .int .i64 (n : Int)] w fun e w' => e = .returned (.tuple #[.string (strOfNums (bytesV 2 (highB n 2)) ++ lenT (tlsT ++ l) ++ lenT s), .bool true]) ∧ Below w.heap.size w w' := by
  have H1 : Hid (∀ wz, Calls Try.prog 7 #[.int .u64 (n : Int), .int .i64 2] wz fun e w' => e = .returned (.string (strOfNums (bytesV 2 (highB n 2)))) ∧ Below wz.heap.size wz w') := fun wz => highest_any n 2 wz (by omega) (by omega)
  have htl : (tlsT ++ l).size = l.size + 6 := by rw [sz_app, show tlsT.size = 6 from rfl]; omega
  have H2 : Hid (∀ wz, Calls Try.prog 8 #[.string (tlsT ++ l)] wz fun e w' => e = .returned (.string (lenT (tlsT ++ l))) ∧ Below wz.heap.size wz w') := fun wz => withLen_any _ wz (by omega)
  have H3 : Hid (∀ wz, Calls Try.prog 8 #[.string s] wz fun e w' => e = .returned (.string (lenT s)) ∧ Below wz.heap.size wz w') := fun wz => withLen_any _ wz hs
  have hw : IntKind.u64.wrap (n : Int) = (n : Int) := by rw [IntKind.wrap_u64]; omega
  have q1 : ¬ (65535 : Int) < (n : Int) := by omega
  have q2 : ¬ (249 : Int) < ((l.size : Nat) : Int) := by omega
  have q3 : ¬ (255 : Int) < ((s.size : Nat) : Int) := by omega
  have z1 : (strOfNums (bytesV 2 (highB n 2))).size = 2 := strOf_size _ _
  have z2 : (lenT (tlsT ++ l)).size ≤ 300 := by rw [lenT_size]; omega
  have z3 : (lenT s).size ≤ 300 := by rw [lenT_size]; omega
  have HT : Hid (tlsT ++ l = (⟨#[116, 108, 115, 49, 51, 32]⟩ : ByteArray) ++ l) := rfl
  generalize strOfNums (bytesV 2 (highB n 2)) = a at H1 z1 ⊢
  generalize lenT (tlsT ++ l) = b at H2 z2 ⊢
  generalize lenT s = d at H3 z3 ⊢
  have z4 : (a ++ b).size = 2 + b.size := by rw [sz_app, z1]
  rw [HT.out] at H2
  clear HT htl
  go_enter Try.func5, Try.ntmps5
  go_wp2_with fail
  refine Calls.mono (H1.out _) ?_
  rintro e w1 ⟨rfl, hb1⟩
  go_wp2_with fail
  refine Calls.mono (H2.out _) ?_
  rintro e w2 ⟨rfl, hb2⟩
  go_wp2_with fail
  refine Calls.mono (H3.out _) ?_
  rintro e w3 ⟨rfl, hb3⟩
  have HB : Hid (Below w.heap.size w w3) := (hb1.trans (hb2.mono hb1.size)).trans (hb3.mono (Nat.le_trans hb1.size hb2.size))
  clear hb1 hb2 hb3
  go_wp2
  go_ret2
  exact ⟨rfl, HB.out⟩
theorem labOk_no {l s : ByteArray} {n : Int} (h : labOk l s n = false) : n < 0 ∨ 0 ≤ n ∧ 65535 < n ∨ 0 ≤ n ∧ n ≤ 65535 ∧ 249 < l.size ∨ 0 ≤ n ∧ n ≤ 65535 ∧ l.size ≤ 249 ∧ 255 < s.size := by
  have := of_decide_eq_false h
  omega
set_option maxHeartbeats 1600000 in
theorem implLabel_no (l s : ByteArray) (n : Int) (w : World) (hl : l.size ≤ 1048576) (hs : s.size ≤ 1048576) (h : labOk l s n = false) :
    Calls Try.prog 5 #[.string l, .string s, .int .i64 n] w fun e w' => e = .returned (.tuple #[.string ByteArray.empty, .bool false]) ∧ Below w.heap.size w w' := by
  rcases labOk_no h with h1 | ⟨h1, h2⟩ | ⟨h1, h2, h3⟩ | ⟨h1, h2, h3, h4⟩
  · clear h
    go_enter Try.func5, Try.ntmps5
    go_wp2
    go_ret2
    exact ⟨rfl, Below.refl _ _⟩
  · have q0 : ¬ n < 0 := by omega
    clear h
    go_enter Try.func5, Try.ntmps5
    go_wp2
    go_ret2
    exact ⟨rfl, Below.refl _ _⟩
  · have q0 : ¬ n < 0 := by omega
    have q1 : ¬ 65535 < n := by omega
    have q2 : (249 : Int) < ((l.size : Nat) : Int) := by omega
    clear h
    go_enter Try.func5, Try.ntmps5
    go_wp2
    go_ret2
    exact ⟨rfl, Below.refl _ _⟩
  · have q0 : ¬ n < 0 := by omega
    have q1 : ¬ 65535 < n := by omega
    have q2 : ¬ (249 : Int) < ((l.size : Nat) : Int) := by omega
    have q3 : (255 : Int) < ((s.size : Nat) : Int) := by omega
    clear h
    go_enter Try.func5, Try.ntmps5
    go_wp2
    go_ret2
    exact ⟨rfl, Below.refl _ _⟩
set_option maxHeartbeats 1600000 in
theorem specLabel_no (l s : ByteArray) (n : Int) (w : World) (hl : l.size ≤ 1048576) (hs : s.size ≤ 1048576) (h : labOk l s n = false) :
    Calls Try.prog 4 #[.string l, .string s, .int .i64 n] w fun e w' => e = .returned (.tuple #[.string ByteArray.empty, .bool false]) ∧ Below w.heap.size w w' := by
  by_cases hn : 0 ≤ n ∧ n ≤ 65535
  · have HI : Hid _ := specInN_yes n 0 65535 w hn
    by_cases h3 : l.size ≤ 249
    · have h4 : 255 < s.size := by have := of_decide_eq_false h; omega
      have q2 : ¬ (249 : Int) < ((l.size : Nat) : Int) := by omega
      have q3 : (255 : Int) < ((s.size : Nat) : Int) := by omega
      clear h hn
      go_enter Try.func4, Try.ntmps4
      go_wp2_with fail
      refine Calls.mono HI.out ?_
      rintro e w1 ⟨rfl, rfl⟩
      go_wp2
      go_ret2
      exact ⟨rfl, Below.refl _ _⟩
    · have q2 : (249 : Int) < ((l.size : Nat) : Int) := by omega
      clear h hn
      go_enter Try.func4, Try.ntmps4
      go_wp2_with fail
      refine Calls.mono HI.out ?_
      rintro e w1 ⟨rfl, rfl⟩
      go_wp2
      go_ret2
      exact ⟨rfl, Below.refl _ _⟩
  · have HI : Hid _ := specInN_no n 0 65535 w hn
    clear h hn
    go_enter Try.func4, Try.ntmps4
    go_wp2_with fail
    refine Calls.mono HI.out ?_
    rintro e w1 ⟨rfl, rfl⟩
    go_wp2
    go_ret2
    exact ⟨rfl, Below.refl _ _⟩
set_option maxHeartbeats 1600000 in
theorem specLabel_yes (l s : ByteArray) (n : Nat) (w : World) (hn : n ≤ 65535) (hl : l.size ≤ 249) (hs : s.size ≤ 255) :
    Calls Try.prog 4 #[.string l, .string s, .int .i64 (n : Int)] w fun e w' => e = .returned (.tuple #[.string (strOfNums (bytesV 2 (highB n 2)) ++ lenT (tlsT ++ l) ++ lenT s), .bool true]) ∧ Below w.heap.size w w' := by
  have HI : Hid _ := specInN_yes (n : Int) 0 65535 w (by omega)
  have q2 : ¬ (249 : Int) < ((l.size : Nat) : Int) := by omega
  have q3 : ¬ (255 : Int) < ((s.size : Nat) : Int) := by omega
  have htl : (tlsT ++ l).size = l.size + 6 := by rw [sz_app, show tlsT.size = 6 from rfl]; omega
  have HT : Hid (tlsT ++ l = (⟨#[116, 108, 115, 49, 51, 32]⟩ : ByteArray) ++ l) := rfl
  go_enter Try.func4, Try.ntmps4
  go_wp2_with fail
  refine Calls.mono HI.out ?_
  rintro e w1 ⟨rfl, rfl⟩
  go_upto_region 4 with fail
  rw [← HT.out]
  clear HT
  have HEND : Hid (strOfNums [(n : Int) / 256, (n : Int) % 256, ((l.size : Nat) : Int) + 6] ++ (tlsT ++ l) ++ strOfNums [((s.size : Nat) : Int)] ++ s = strOfNums (bytesV 2 (highB n 2)) ++ lenT (tlsT ++ l) ++ lenT s) := by
    show _ = _
    have t1 : (tlsT ++ l).size % 256 = (tlsT ++ l).size := Nat.mod_eq_of_lt (by omega)
    have t2 : s.size % 256 = s.size := Nat.mod_eq_of_lt (by omega)
    have t3 : ((n / 256 % 256 : Nat) : Int) = (n : Int) / 256 := by omega
    have t5 : (((tlsT ++ l).size : Nat) : Int) = ((l.size : Nat) : Int) + 6 := by omega
    have t4 : ((n % 256 : Nat) : Int) = (n : Int) % 256 := by omega
    unfold lenT oneT
    rw [high2, t1, t2, t3, t4, t5]
    apply Go.WideShapes.bytes_inj
    simp only [dat_app, strOfNums_data, List.append_assoc, List.map_cons, List.map_nil, List.cons_append, List.nil_append]
  generalize hTT : tlsT ++ l = T at htl HEND ⊢
  have HTT : Hid (tlsT ++ l = T) := hTT
  clear hTT
  have e1 : IntKind.u8.wrap ((n : Int) / 256) = (n : Int) / 256 := by rw [IntKind.wrap_u8']; omega
  have e2 : IntKind.u8.wrap ((n : Int) % 256) = (n : Int) % 256 := by rw [IntKind.wrap_u8']; omega
  have e3 : IntKind.u8.wrap ((T.size : Nat) : Int) = ((T.size : Nat) : Int) := by rw [IntKind.wrap_u8']; omega
  have e4 : IntKind.u8.wrap ((s.size : Nat) : Int) = ((s.size : Nat) : Int) := by rw [IntKind.wrap_u8']; omega
  have hc1 : (convert 26 9 (.slice (some ⟨w.heap.size, 0, none⟩) 3 3)).run Try.prog (w.alloc (.cells #[.int .u8 ((n : Int) / 256), .int .u8 ((n : Int) % 256), .int .u8 (((l.size : Nat) : Int) + 6)] 5)) = .ok (.string (strOfNums [(n : Int) / 256, (n : Int) % 256, ((l.size : Nat) : Int) + 6])) (w.alloc (.cells #[.int .u8 ((n : Int) / 256), .int .u8 ((n : Int) % 256), .int .u8 (((l.size : Nat) : Int) + 6)] 5)) := by
    refine run_convert_bytes_arg _ 26 5 Try.underlying26 Try.underlying5 w.heap.size 0 3 3 [(n : Int) / 256, (n : Int) % 256, ((l.size : Nat) : Int) + 6] rfl ?_ 9 Try.underlying9
    intro i hi
    rw [cell_of_row _ _ _ _ _ _ (heap_alloc_new w _)]
    rcases (show i = 0 ∨ i = 1 ∨ i = 2 by omega) with rfl | rfl | rfl <;> rfl
  have HBa : Hid (Below w.heap.size w (w.alloc (.cells #[.int .u8 ((n : Int) / 256), .int .u8 ((n : Int) % 256), .int .u8 (((l.size : Nat) : Int) + 6)] 5))) := (Below.refl _ _).alloc (Nat.le_refl _) _
  have hz1 : (strOfNums [(n : Int) / 256, (n : Int) % 256, ((l.size : Nat) : Int) + 6]).size = 3 := by rw [strOfNums_size]; rfl
  have hz2 : (strOfNums [((s.size : Nat) : Int)]).size = 1 := by rw [strOfNums_size]; rfl
  have HC2 : Hid (∀ wz : World, (convert 26 9 (.slice (some ⟨wz.heap.size, 0, none⟩) 1 1)).run Try.prog (wz.alloc (.cells #[.int .u8 ((s.size : Nat) : Int)] 5)) = .ok (.string (strOfNums [((s.size : Nat) : Int)])) (wz.alloc (.cells #[.int .u8 ((s.size : Nat) : Int)] 5))) := fun wz => by
    refine run_convert_bytes_arg _ 26 5 Try.underlying26 Try.underlying5 wz.heap.size 0 1 1 [((s.size : Nat) : Int)] rfl ?_ 9 Try.underlying9
    intro i hi
    rw [cell_of_row _ _ _ _ _ _ (heap_alloc_new wz _)]
    obtain rfl : i = 0 := by omega
    rfl
  have hc2 := HC2.out (w.alloc (.cells #[.int .u8 ((n : Int) / 256), .int .u8 ((n : Int) % 256), .int .u8 (((l.size : Nat) : Int) + 6)] 5))
  rw [show (w.alloc (.cells #[.int .u8 ((n : Int) / 256), .int .u8 ((n : Int) % 256), .int .u8 (((l.size : Nat) : Int) + 6)] 5)).heap.size = w.heap.size + 1 by simp] at hc2
  have hz3 : (strOfNums [(n : Int) / 256, (n : Int) % 256, ((l.size : Nat) : Int) + 6] ++ T).size = l.size + 9 := by rw [sz_app, hz1, htl]; omega
  have hz4 : (strOfNums [(n : Int) / 256, (n : Int) % 256, ((l.size : Nat) : Int) + 6] ++ T ++ strOfNums [((s.size : Nat) : Int)]).size = l.size + 10 := by rw [sz_app, hz3, hz2]
  generalize strOfNums [(n : Int) / 256, (n : Int) % 256, ((l.size : Nat) : Int) + 6] = A at hc1 hz1 HEND hz3 hz4
  generalize strOfNums [((s.size : Nat) : Int)] = C at hc2 hz2 HEND hz4
  go_wp2
  go_ret2
  exact ⟨by rw [HTT.out, ← HEND.out]; rfl, HBa.out.alloc (by simp) _⟩
theorem specLabel_any (l s : ByteArray) (n : Int) (w : World) (hl : l.size ≤ 1048576) (hs : s.size ≤ 1048576) :
    Calls Try.prog 4 #[.string l, .string s, .int .i64 n] w fun e w' => e = .returned (.tuple #[.string (labT l s n), .bool (labOk l s n)]) ∧ Below w.heap.size w w' := by
  cases hb : labOk l s n
  · rw [show labT l s n = ByteArray.empty by unfold labT; rw [hb, if_neg (by decide)]]
    exact specLabel_no l s n w hl hs hb
  · have h := of_decide_eq_true hb
    have h6 : ((n.toNat : Nat) : Int) = n := by omega
    have h7 : n.toNat ≤ 65535 := by omega
    have := specLabel_yes l s n.toNat w h7 h.2.1 h.2.2
    rw [h6] at this
    rw [show labT l s n = strOfNums (bytesV 2 (highB n.toNat 2)) ++ lenT (tlsT ++ l) ++ lenT s by unfold labT; rw [if_pos hb]]
    exact this
theorem implLabel_any (l s : ByteArray) (n : Int) (w : World) (hl : l.size ≤ 1048576) (hs : s.size ≤ 1048576) :
    Calls Try.prog 5 #[.string l, .string s, .int .i64 n] w fun e w' => e = .returned (.tuple #[.string (labT l s n), .bool (labOk l s n)]) ∧ Below w.heap.size w w' := by
  cases hb : labOk l s n
  · rw [show labT l s n = ByteArray.empty by unfold labT; rw [hb, if_neg (by decide)]]
    exact implLabel_no l s n w hl hs hb
  · have h := of_decide_eq_true hb
    have h6 : ((n.toNat : Nat) : Int) = n := by omega
    have h7 : n.toNat ≤ 65535 := by omega
    have := implLabel_yes l s n.toNat w h7 h.2.1 h.2.2
    rw [h6] at this
    rw [show labT l s n = strOfNums (bytesV 2 (highB n.toNat 2)) ++ lenT (tlsT ++ l) ++ lenT s by unfold labT; rw [if_pos hb]]
    exact this
end Go.Proofs.Ytimkkibbcbkeiaa
