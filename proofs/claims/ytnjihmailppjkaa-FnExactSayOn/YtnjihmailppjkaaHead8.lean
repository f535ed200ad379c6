/- The contracts of chapter 8's RecordHead and OpenRecord, the specification's, and what they answer in plain words. -/
import Derived.Test.YtnjihmailppjkaaMakeParts
import Derived.Test.YtnjihmailppjkaaMakeIs
import Derived.Test.YtnjihmailppjkaaTermAt
import Derived.WalkKit
import Derived.WalkLawsBesides
import Derived.WalkSpells
import Derived.OwnWalk
import Derived.Laws.Rows
import Derived.Deep.QuietTactic
import Derived.BigQuiet
namespace Go.Proofs.Ytnjihmailppjkaa
open Go.RowKit
set_option linter.unusedVariables false
/-- The worlds behind one in which nothing that was there has turned. -/
theorem read_class (w1 : World) : ∃ S : World → Prop, S w1.drew ∧ Nonempty (Hw S) ∧ Hid ((∀ (p : Addr) (v : Value), p.block < w1.heap.size → w1.cell? p = some v → ∀ s : Hw S, s.w.cell? p = some v) ∧ (∀ (s : Hw S) w', Below s.w.heap.size s.w w' → S w') ∧ (∀ w', S w' → Below w1.heap.size w1 w') ∧ (∀ s : Hw S, Below w1.heap.size w1 s.w)) :=
  ⟨fun w' => Below w1.heap.size w1 w', (Below.refl _ _).drew, ⟨⟨w1, Below.refl _ _⟩⟩, fun p v hp hc s => (s.ok.cell hp).trans hc, fun s w' hb => s.ok.trans (hb.mono s.ok.size), fun _ h => h, fun s => s.ok⟩
/-- A part of a List of three. -/
def p3 (ns : List Nd) (k : Int) (i : Nat) : Int := (partsV ns k 3).getD i 0
/-- RecordHead. -/
def headB (ns : List Nd) (k : Int) : Bool := partsB ns k 3 && (isK ns (p3 ns k 0) 1 && (isK ns (p3 ns k 1) 1 && (inB (numV ns (p3 ns k 0)) 0 8 && inB (numV ns (p3 ns k 1)) 0 9999)))
def headE (ns : List Nd) (k : Int) : Int := if headB ns k = true then numV ns (p3 ns k 0) else 0
def headS (ns : List Nd) (k : Int) : Int := if headB ns k = true then numV ns (p3 ns k 1) else 0
theorem parts3 {ns : List Nd} {k : Int} (h : partsB ns k 3 = true) : (partsV ns k 3).length = 3 := by
  unfold partsB at h
  unfold partsV
  cases hp : partsR ns k 3 with
  | none => rw [hp] at h; simp at h
  | some xs =>
    unfold partsR at hp
    rw [if_neg (by omega)] at hp
    exact (partsN_len ns 3 k xs hp).1
/-- The row of the parts. -/
theorem own3 {B : Nat} {w : World} {v : Value} {xs : List Int} (h : OwnInt B w v xs) (hl : xs.length = 3) : ∃ g off cap, v = .slice (some ⟨g, off, none⟩) 3 cap ∧ g < w.heap.size ∧ w.cell? ⟨g, off, none⟩ = some (.int .i64 (xs.getD 0 0)) ∧ w.cell? ⟨g, off + 1, none⟩ = some (.int .i64 (xs.getD 1 0)) ∧ w.cell? ⟨g, off + 2, none⟩ = some (.int .i64 (xs.getD 2 0)) := by
  obtain ⟨a, cap, rfl, -, hr⟩ := h.row
  rcases hr with h0 | ⟨b, off, rfl, hb, hc⟩
  · rw [h0] at hl; simp at hl
  · rw [hl]
    exact ⟨b, off, cap, rfl, hb, hc 0 (by omega), hc 1 (by omega), hc 2 (by omega)⟩
set_option maxHeartbeats 1600000 in
theorem specHead_any (a : Option Addr) (cap : Nat) (ns : List Nd) (k : Int) (w : World) (hl : ns.length ≤ 1048576) (hr : RowN w.heap.size w a ns) :
    Calls Try.prog 44 #[.agg #[.slice a ns.length cap], .int .i64 k] w fun e w' => e = .returned (.tuple #[.int .i64 (headE ns k), .int .i64 (headS ns k), .bool (headB ns k)]) ∧ Below w.heap.size w w' := by
  have hb0 : Below w.heap.size w (w.alloc (.cells #[.slice a ns.length cap] 39)) := (Below.refl _ _).alloc (Nat.le_refl _) _
  have hA0 := heap_alloc_new w (.cells #[.slice a ns.length cap] 39)
  have hs0 : (w.alloc (.cells #[.slice a ns.length cap] 39)).heap.size = w.heap.size + 1 := by simp
  have HR : Hid (RowN w.heap.size w a ns) := hr
  have HP : Hid _ := specParts_any a cap ns k 3 _ hl (hr.grown hb0)
  have HN : Hid (∀ (x : Int) (w' : World), RowN w'.heap.size w' a ns → Calls Try.prog 64 #[.agg #[.slice a ns.length cap], .int .i64 x] w' fun e w'' => e = .returned (.tuple #[.int .i64 (numV ns x), .bool (isK ns x 1)]) ∧ Below w'.heap.size w' w'') := fun x w' h => specNum_any a cap ns x w' hl h
  obtain ⟨b0, HB0⟩ : ∃ b, Hid (partsB ns k 3 = b) := ⟨_, rfl⟩
  obtain ⟨E, F, G, HEF, hE, hF, hG⟩ : ∃ E F G, Hid (E = headE ns k ∧ F = headS ns k ∧ G = headB ns k) ∧ E = headE ns k ∧ F = headS ns k ∧ G = headB ns k := ⟨_, _, _, ⟨rfl, rfl, rfl⟩, rfl, rfl, rfl⟩
  rw [← hE, ← hF, ← hG]
  clear hr hE hF hG
  go_enter Try.func44, Try.ntmps44
  go_wp2_with fail
  refine Calls.mono HP.out ?_
  rintro e w1 ⟨v, rfl, hown, hb1⟩
  rw [HB0.out]
  have hA1 := (hb1.block w.heap.size (by simp)).trans hA0
  have c0 : w1.cell? ⟨w.heap.size, 0, none⟩ = some (.slice a ns.length cap) := (cell_of_row w1 _ 0 _ _ _ hA1).trans rfl
  have HB : Hid (Below w.heap.size w w1) := hb0.trans (hb1.mono (by omega))
  have hsz1 : w.heap.size < w1.heap.size := by have := hb1.size; omega
  cases b0
  · have HF : Hid (E = 0 ∧ F = 0 ∧ G = false) := by
      have hz : headB ns k = false := by unfold headB; rw [HB0.out]; rfl
      refine ⟨HEF.out.1.trans ?_, HEF.out.2.1.trans ?_, HEF.out.2.2.trans hz⟩
      · unfold headE; rw [hz]; rfl
      · unfold headS; rw [hz]; rfl
    clear hown hb1 hA1 c0 hb0 hA0
    go_wp2
    go_ret3
    exact ⟨by rw [HF.out.1, HF.out.2.1, HF.out.2.2]; rfl, HB.out⟩
  · obtain ⟨gp, off, cp, rfl, hgp, q0, q1, q2⟩ := own3 hown (parts3 HB0.out)
    obtain ⟨x0, HX0⟩ : ∃ x, Hid (p3 ns k 0 = x) := ⟨_, rfl⟩
    obtain ⟨x1, HX1⟩ : ∃ x, Hid (p3 ns k 1 = x) := ⟨_, rfl⟩
    rw [show (partsV ns k 3).getD 0 0 = x0 from HX0.out] at q0
    rw [show (partsV ns k 3).getD 1 0 = x1 from HX1.out] at q1
    clear q2 hown hA1 hb0 hA0 hb1 HP
    obtain ⟨S, hS0, hNE, HK⟩ := read_class w1
    have k0 := HK.out.1 _ _ hsz1 c0
    have k1 := HK.out.1 _ _ (show (⟨gp, off, none⟩ : Addr).block < _ from hgp) q0
    have k2 := HK.out.1 _ _ (show (⟨gp, off + 1, none⟩ : Addr).block < _ from hgp) q1
    have HRS : Hid (∀ s : Hw S, RowN s.w.heap.size s.w a ns) := fun s => HR.out.grown (HB.out.trans ((HK.out.2.2.2 s).mono HB.out.size))
    have hd : ∀ s : Hw S, S s.w.drew := fun s => HK.out.2.1 s _ (Below.refl _ _).drew
    have HDR : Hid (∀ s : Hw S, S s.w.drew) := hd
    clear c0 q0 q1 hd
    go_wp2_with fail
    refine wp_region_held (S := S) (by kernel_rfl) (by kernel_rfl) hS0 ?_
    repeat (go_big_quiet_step ((go_at_call 64; exact Calls.held (HN.out x0 _ (HRS.out _)) (HK.out.2.1 _))))
    refine wpQuiet_nil ?_
    rintro _ ⟨sw, rfl⟩
    go_wp2_with fail
    refine wp_region_held (S := S) (by kernel_rfl) (by kernel_rfl) (HDR.out _) ?_
    repeat (go_big_quiet_step ((go_at_call 64; exact Calls.held (HN.out x1 _ (HRS.out _)) (HK.out.2.1 _))))
    refine wpQuiet_nil ?_
    rintro _ ⟨sw2, rfl⟩
    have HB2 : Hid (Below w.heap.size w sw2.w) := HB.out.trans ((HK.out.2.2.2 sw2).mono HB.out.size)
    obtain ⟨n0, HN0⟩ : ∃ n, Hid (numV ns x0 = n) := ⟨_, rfl⟩
    obtain ⟨n1, HN1⟩ : ∃ n, Hid (numV ns x1 = n) := ⟨_, rfl⟩
    obtain ⟨d1, HD1⟩ : ∃ d, Hid (isK ns x0 1 = d) := ⟨_, rfl⟩
    obtain ⟨d2, HD2⟩ : ∃ d, Hid (isK ns x1 1 = d) := ⟨_, rfl⟩
    obtain ⟨d3, HD3⟩ : ∃ d, Hid (inB n0 0 8 = d) := ⟨_, rfl⟩
    obtain ⟨d4, HD4⟩ : ∃ d, Hid (inB n1 0 9999 = d) := ⟨_, rfl⟩
    rw [HN0.out, HN1.out, HD1.out, HD2.out]
    have HZ : Hid (headB ns k = (d1 && (d2 && (d3 && d4)))) := by show _ = _; unfold headB; rw [HB0.out, HX0.out, HX1.out, HN0.out, HN1.out, HD1.out, HD2.out, HD3.out, HD4.out]; rfl
    have HNO : Hid ((d1 && (d2 && (d3 && d4))) = false → E = 0 ∧ F = 0 ∧ G = false) := by
      intro hz
      rw [← HZ.out] at hz
      refine ⟨HEF.out.1.trans ?_, HEF.out.2.1.trans ?_, HEF.out.2.2.trans hz⟩
      · unfold headE; rw [hz]; rfl
      · unfold headS; rw [hz]; rfl
    have HYES : Hid ((d1 && (d2 && (d3 && d4))) = true → E = n0 ∧ F = n1 ∧ G = true) := by
      intro hz
      rw [← HZ.out] at hz
      refine ⟨HEF.out.1.trans ?_, HEF.out.2.1.trans ?_, HEF.out.2.2.trans hz⟩
      · unfold headE; rw [hz, if_pos rfl, HX0.out, HN0.out]
      · unfold headS; rw [hz, if_pos rfl, HX1.out, HN1.out]
    clear HZ HEF HN0 HN1 HX0 HX1 HN HRS HDR HK k0 k1 k2 hS0 hNE HB HD1 HD2
    generalize sw2.w = w3 at HB2 ⊢
    cases d1
    · go_wp2
      go_ret3
      obtain ⟨e1, e2, e3⟩ := HNO.out rfl
      exact ⟨by rw [e1, e2, e3]; rfl, HB2.out⟩
    · cases d2
      · go_wp2
        go_ret3
        obtain ⟨e1, e2, e3⟩ := HNO.out rfl
        exact ⟨by rw [e1, e2, e3]; rfl, HB2.out⟩
      · cases d3
        · go_wp2_with (go_at_call 30; refine (specIn_any _ _ _ _).mono ?_; rintro e w' ⟨rfl, rfl⟩; rw [HD3.out])
          go_ret3
          obtain ⟨e1, e2, e3⟩ := HNO.out rfl
          exact ⟨by rw [e1, e2, e3]; rfl, HB2.out⟩
        · cases d4
          · go_wp2_with (go_at_call 30; refine (specIn_any _ _ _ _).mono ?_; rintro e w' ⟨rfl, rfl⟩; first | rw [HD3.out] | rw [HD4.out])
            go_ret3
            obtain ⟨e1, e2, e3⟩ := HNO.out rfl
            exact ⟨by rw [e1, e2, e3]; rfl, HB2.out⟩
          · go_wp2_with (go_at_call 30; refine (specIn_any _ _ _ _).mono ?_; rintro e w' ⟨rfl, rfl⟩; first | rw [HD3.out] | rw [HD4.out])
            go_ret3
            obtain ⟨e1, e2, e3⟩ := HYES.out rfl
            exact ⟨by rw [e1, e2, e3]; rfl, HB2.out⟩
/-- OpenRecord. -/
def inAt (ns : List Nd) (key k : Int) : Int := openV ns key (p3 ns k 2)
def openRB (ns : List Nd) (key k : Int) : Bool := headB ns k && (openB ns key (p3 ns k 2) && (partsB ns (inAt ns key k) 3 && (decide (p3 ns (inAt ns key k) 0 = p3 ns k 0) && decide (p3 ns (inAt ns key k) 1 = p3 ns k 1))))
def openRV (ns : List Nd) (key k : Int) : Int := if openRB ns key k = true then p3 ns (inAt ns key k) 2 else -1
theorem headB_parts {ns : List Nd} {k : Int} (h : headB ns k = true) : partsB ns k 3 = true := by unfold headB at h; simp only [Bool.and_eq_true] at h; exact h.1
end Go.Proofs.Ytnjihmailppjkaa
