/- The contracts of chapter 3's TermText, the program's: appendTerm of terms with others, TermText. -/
import Derived.Test.YtaanophnnkmkbaaGreatVarW
import Derived.WalkKit
import Derived.WalkLawsBesides
import Derived.WalkSpells
import Derived.Test.YtaanophnnkmkbaaGreatSpecText
import Derived.Test.YtaanophnnkmkbaaGreatMakeIs
import Derived.Lib.Bytealg
import Derived.Laws.Rows
import Derived.Test.YtaanophnnkmkbaaGreatTermPut2
import Derived.Test.YtaanophnnkmkbaaGreatDrawAny
import Derived.Test.YtaanophnnkmkbaaGreatRegionK
import Derived.Laws.ResultCell
namespace Go.Proofs.YtaanophnnkmkbaaGreat
open Go.RowKit
set_option linter.unusedVariables false

set_option maxHeartbeats 1600000 in
set_option maxRecDepth 20000 in
theorem appendTerm_one (ns : List Nd) (k : Nat) (hl : ns.length ≤ 1048576) (hg : Good ns k) (hz : szv ns k ≤ 2000) (hk2 : 2 ≤ (ns.getD k Nd.zero).k) (hone : oneK (ns.getD k Nd.zero).k = true) (ih : AppT ns (ns.getD k Nd.zero).a.toNat) : AppT ns k := by
  intro base a cap v xs w hb hbw hr hown
  have hkl := hg.1
  have HT : Hid _ := tx_one hg hk2 hone
  have hsk := szv_kids hg hz
  unfold szSum at hsk
  rw [if_neg (by omega), if_pos hone] at hsk
  have hkk := right_kind (hg.2 k (Nat.le_refl _))
  have hna : 0 ≤ (ns.getD k Nd.zero).a := by rcases nodeB_true (hg.2 k (Nat.le_refl _)) with h | h | h <;> omega
  obtain ⟨b, off, rfl⟩ := hr.addr hkl
  obtain ⟨hbb, c0, c1, c2, c3⟩ := hr.at (Below.refl _ _) hkl
  have hi0 : (0 : Int) ≤ (k : Int) := by omega
  have hi1 : (k : Int) < (ns.length : Int) := by omega
  have HR : Hid (RowN base w (some ⟨b, off, none⟩) ns) := hr
  generalize ns.getD k Nd.zero = y at c0 c1 c2 c3 HT hk2 hone ih hsk hkk hna
  obtain ⟨yk, yn, ya, yb⟩ := y
  dsimp only at c0 c1 c2 c3 hk2 hone HT ih hsk hkk hna
  obtain ⟨p, rfl⟩ : ∃ p : Nat, ya = (p : Int) := ⟨ya.toNat, by omega⟩
  obtain ⟨q, rfl⟩ : ∃ q : Nat, yk = (q : Int) := ⟨yk.toNat, by omega⟩
  rw [Int.toNat_natCast] at ih hsk HT
  rw [Int.toNat_natCast] at HT
  have HXL : Hid ((xs ++ vb q).length = xs.length + 1) := by show _ = _; rw [vb_small (by omega)]; simp
  have hxl : ((xs ++ vb q).length : Int) + 4 * szv ns p ≤ 100000 := by rw [HXL.out]; omega
  have hx0 : xs.length ≤ 100000 := by have := szv_le ns k; omega
  have ha := as_oneTerm_atomTerm
  have ho := as_oneTerm_oneTerm
  have HON : Hid ((q : Int) = 3 ∨ (q : Int) = 6) := by show _ ∨ _; unfold oneK at hone; simpa using hone
  have HIH : Hid (AppT ns p) := ih
  have hq9 : q ≤ 1000000000 := by omega
  have HX4 : Hid _ := hxl
  clear hr hb hg hz ih hsk hone hk2 hkk hna hxl
  go_enter Tryz.func131, Tryz.ntmps131
  go_wp2_with fail
  refine (appendVar_any base v xs q _ hq9 hx0 hbw hown).mono ?_
  rintro e w1 ⟨v1, rfl, ho1, hg1, hl1⟩
  have hb1 : Below base w w1 := (Below.refl _ _).grown hg1 hbw (fun k hk => (hown.lt k hk).1)
  have d0 := (hb1.cell (p := ⟨b, off + k * 4, none⟩) hbb).trans c0
  have d1 := (hb1.cell (p := ⟨b, off + k * 4 + 1, none⟩) hbb).trans c1
  have d2 := (hb1.cell (p := ⟨b, off + k * 4 + 2, none⟩) hbb).trans c2
  have d3 := (hb1.cell (p := ⟨b, off + k * 4 + 3, none⟩) hbb).trans c3
  have hs1 := hb1.size
  clear c0 c1 c2 c3 hown
  go_wp2_with fail
  refine (termOf_one q yn p yb _ HON.out).mono ?_
  rintro e w2 ⟨rfl, hb2⟩
  have ho2 := own_next ho1 hb2
  have HO2 : Hid (World.ownsRow _ _ _ _ _ _ _) := ho2.alloc (.cells #[.int .i64 (q : Int), .int .i64 (p : Int)] 146)
  have hB2 : Below base w w2 := hb1.trans (hb2.mono (by omega))
  have hs2 := hb2.size
  have HR2 : Hid _ := HR.out.later (hB2.alloc (show base ≤ w2.heap.size by omega) (.cells #[.int .i64 (q : Int), .int .i64 (p : Int)] 146))
  have hG2 := gb_more hg1 hb2
  clear ho1 ho2 hb1 hb2 hg1 hB2 d0 d1 d2 d3
  go_wp2_with fail
  refine (HIH.out base (some ⟨b, off, none⟩) cap v1 (xs ++ vb q) _ HX4.out (by simp; omega) HR2.out HO2.out).mono ?_
  rintro e w3 ⟨v3, rfl, ho3, hg3, hl3⟩
  have HO3 : Hid (w3.ownsRow base 5 1 v3 (xs ++ tx ns k).length ((xs ++ tx ns k).map (Value.int .u8))) := by
    show World.ownsRow _ _ _ _ _ _ _
    rw [HT.out, ← List.append_assoc]; exact ho3
  have HG3 : Hid (w.grownBy w3 v.ownBlock ∧ Lies w v v3) := ⟨gb_then (gb_more hG2 ((Below.refl _ _).alloc (Nat.le_refl _) _)) hl1 hg3, hl1.next (by simp; omega) hl3⟩
  clear ho3 hg3 hl3 HO2 hG2 hl1 HR2 HR
  go_wp2
  go_ret
  exact ⟨_, rfl, HO3.out, HG3.out.1, HG3.out.2⟩
set_option maxHeartbeats 1600000 in
set_option maxRecDepth 20000 in
theorem appendTerm_two (ns : List Nd) (k : Nat) (hl : ns.length ≤ 1048576) (hg : Good ns k) (hz : szv ns k ≤ 2000) (hk2 : 2 ≤ (ns.getD k Nd.zero).k) (hone : oneK (ns.getD k Nd.zero).k = false) (ih : AppT ns (ns.getD k Nd.zero).a.toNat) (ih2 : AppT ns (ns.getD k Nd.zero).b.toNat) (hlen : ((tx ns (ns.getD k Nd.zero).a.toNat).length : Int) ≤ 4 * szv ns (ns.getD k Nd.zero).a.toNat) : AppT ns k := by
  intro base a cap v xs w hb hbw hr hown
  have hkl := hg.1
  have HT : Hid _ := tx_two hg hk2 hone
  have hsk := szv_kids hg hz
  unfold szSum at hsk
  rw [if_neg (by omega), if_neg (one_no hone)] at hsk
  have hkk := right_kind (hg.2 k (Nat.le_refl _))
  have hna : 0 ≤ (ns.getD k Nd.zero).a ∧ 0 ≤ (ns.getD k Nd.zero).b := by rcases nodeB_true (hg.2 k (Nat.le_refl _)) with h | h | h <;> omega
  obtain ⟨b, off, rfl⟩ := hr.addr hkl
  obtain ⟨hbb, c0, c1, c2, c3⟩ := hr.at (Below.refl _ _) hkl
  have hi0 : (0 : Int) ≤ (k : Int) := by omega
  have hi1 : (k : Int) < (ns.length : Int) := by omega
  have HR : Hid (RowN base w (some ⟨b, off, none⟩) ns) := hr
  generalize ns.getD k Nd.zero = y at c0 c1 c2 c3 HT hk2 hone ih ih2 hsk hkk hna hlen
  obtain ⟨yk, yn, ya, yb⟩ := y
  dsimp only at c0 c1 c2 c3 hk2 hone HT ih ih2 hsk hkk hna hlen
  obtain ⟨p, rfl⟩ : ∃ p : Nat, ya = (p : Int) := ⟨ya.toNat, by omega⟩
  obtain ⟨r, rfl⟩ : ∃ r : Nat, yb = (r : Int) := ⟨yb.toNat, by omega⟩
  obtain ⟨q, rfl⟩ : ∃ q : Nat, yk = (q : Int) := ⟨yk.toNat, by omega⟩
  simp only [Int.toNat_natCast] at ih ih2 hsk HT hlen
  have HXL : Hid ((xs ++ vb q).length = xs.length + 1) := by show _ = _; rw [vb_small (by omega)]; simp
  have hp0 := szv_le ns p
  have hr0 := szv_le ns r
  have HX4 : Hid (((xs ++ vb q).length : Int) + 4 * szv ns p ≤ 100000) := by show _ ≤ _; rw [HXL.out]; omega
  have HX5 : Hid (((xs ++ vb q ++ tx ns p).length : Int) + 4 * szv ns r ≤ 100000) := by show _ ≤ _; rw [List.length_append, HXL.out]; omega
  have hx0 : xs.length ≤ 100000 := by omega
  have ha := as_twoTerm_atomTerm
  have ho := as_twoTerm_oneTerm
  have ht := as_twoTerm_twoTerm
  have HON : Hid ((q : Int) = 2 ∨ (q : Int) = 4 ∨ (q : Int) = 5 ∨ (q : Int) = 7 ∨ (q : Int) = 8 ∨ (q : Int) = 9) := by
    show _ ∨ _
    unfold oneK at hone; simp at hone; omega
  have HIH : Hid (AppT ns p) := ih
  have HIH2 : Hid (AppT ns r) := ih2
  have hq9 : q ≤ 1000000000 := by omega
  clear hr hb hg hz ih ih2 hsk hone hk2 hkk hna hp0 hr0 hlen
  go_enter Tryz.func131, Tryz.ntmps131
  go_wp2_with fail
  refine (appendVar_any base v xs q _ hq9 hx0 hbw hown).mono ?_
  rintro e w1 ⟨v1, rfl, ho1, hg1, hl1⟩
  have hb1 : Below base w w1 := (Below.refl _ _).grown hg1 hbw (fun k hk => (hown.lt k hk).1)
  have d0 := (hb1.cell (p := ⟨b, off + k * 4, none⟩) hbb).trans c0
  have d1 := (hb1.cell (p := ⟨b, off + k * 4 + 1, none⟩) hbb).trans c1
  have d2 := (hb1.cell (p := ⟨b, off + k * 4 + 2, none⟩) hbb).trans c2
  have d3 := (hb1.cell (p := ⟨b, off + k * 4 + 3, none⟩) hbb).trans c3
  have hs1 := hb1.size
  clear c0 c1 c2 c3 hown
  go_wp2_with fail
  refine (termOf_two q yn p r _ HON.out).mono ?_
  rintro e w2 ⟨rfl, hb2⟩
  have ho2 := own_next ho1 hb2
  have HO2 : Hid (World.ownsRow _ _ _ _ _ _ _) := ho2.alloc (.cells #[.int .i64 (q : Int), .int .i64 (p : Int), .int .i64 (r : Int)] 148)
  have hB2 : Below base w w2 := hb1.trans (hb2.mono (by omega))
  have hs2 := hb2.size
  have HR2 : Hid (RowN base _ (some ⟨b, off, none⟩) ns) := HR.out.later (hB2.alloc (show base ≤ w2.heap.size by omega) (.cells #[.int .i64 (q : Int), .int .i64 (p : Int), .int .i64 (r : Int)] 148))
  have hne : v1.ownBlock ≠ some w2.heap.size := fun e => by have := (ho2.lt _ e).2; omega
  have hG2 : w.grownBy (w2.alloc (.cells #[.int .i64 (q : Int), .int .i64 (p : Int), .int .i64 (r : Int)] 148)) v.ownBlock := gb_more (gb_more hg1 hb2) ((Below.refl _ _).alloc (Nat.le_refl _) _)
  have hbox := cell_of_row _ w2.heap.size 2 _ _ _ (heap_alloc_new w2 (.cells #[.int .i64 (q : Int), .int .i64 (p : Int), .int .i64 (r : Int)] 148))
  have HBX : Hid ((w2.alloc (.cells #[.int .i64 (q : Int), .int .i64 (p : Int), .int .i64 (r : Int)] 148)).cell? ⟨w2.heap.size, 2, none⟩ = some (.int .i64 (r : Int))) := hbox.trans rfl
  have hsA : (w2.alloc (.cells #[.int .i64 (q : Int), .int .i64 (p : Int), .int .i64 (r : Int)] 148)).heap.size = w2.heap.size + 1 := by simp
  clear ho1 ho2 hb1 hb2 hg1 hB2 d0 d1 d2 d3 hbox
  go_wp2_with fail
  generalize w2.alloc (.cells #[.int .i64 (q : Int), .int .i64 (p : Int), .int .i64 (r : Int)] 148) = wA at HO2 HR2 hG2 HBX hsA ⊢
  refine (HIH.out base (some ⟨b, off, none⟩) cap v1 (xs ++ vb q) wA HX4.out (by omega) HR2.out HO2.out).mono ?_
  rintro e w3 ⟨v3, rfl, ho3, hg3, hl3⟩
  have hx3 := cell_gb hg3 (by omega) hne HBX.out
  have HO3 : Hid (World.ownsRow _ _ _ _ _ _ _) := ho3
  have HR3 : Hid (RowN base w3 (some ⟨b, off, none⟩) ns) := HR2.out.later ((Below.refl _ _).grown hg3 (by omega) (fun k hk => (HO2.out.lt k hk).1))
  have hs3 := hg3.size
  have HG3 : Hid (w.grownBy w3 v.ownBlock ∧ Lies w v v3) := ⟨gb_then hG2 hl1 hg3, hl1.next (by omega) hl3⟩
  clear ho3 hg3 hl3 hG2 HO2 HR2 HBX hl1
  go_wp2_with fail
  refine (HIH2.out base (some ⟨b, off, none⟩) cap v3 (xs ++ vb q ++ tx ns p) w3 HX5.out (by omega) HR3.out HO3.out).mono ?_
  rintro e w4 ⟨v4, rfl, ho4, hg4, hl4⟩
  have HO4 : Hid (w4.ownsRow base 5 1 v4 (xs ++ tx ns k).length ((xs ++ tx ns k).map (Value.int .u8))) := by
    show World.ownsRow _ _ _ _ _ _ _
    rw [HT.out, ← List.append_assoc, ← List.append_assoc]; exact ho4
  have HG4 : Hid (w.grownBy w4 v.ownBlock ∧ Lies w v v4) := ⟨gb_then HG3.out.1 HG3.out.2 hg4, HG3.out.2.next HG3.out.1.size hl4⟩
  clear ho4 hg4 hl4 HO3 HR3 HG3
  go_wp2
  go_ret
  exact ⟨_, rfl, HO4.out, HG4.out.1, HG4.out.2⟩
theorem appendTerm_any (ns : List Nd) (hl : ns.length ≤ 1048576) : ∀ k, Good ns k → szv ns k ≤ 2000 → AppT ns k := by
  intro k
  induction k using Nat.strongRecOn with
  | ind k ih =>
    intro hg hz
    have hsk := szv_kids hg hz
    unfold szSum at hsk
    rcases nodeB_true (hg.2 k (Nat.le_refl _)) with ⟨h1, _⟩ | ⟨h1, _, _, h2, h3, h4, _⟩ | ⟨h1, _, _, h2, h3, h4, h5, h6⟩
    · exact appendTerm_atom ns k hl hg hz h1
    · rw [if_neg (by omega), if_pos h4] at hsk
      have ga := hg.down (show (ns.getD k Nd.zero).a.toNat ≤ k by omega)
      exact appendTerm_one ns k hl hg hz h1 h4 (ih _ (by omega) ga (by have := szv_range ns _ ga.2; omega))
    · rw [if_neg (by omega), if_neg (one_no h4)] at hsk
      have ga := hg.down (show (ns.getD k Nd.zero).a.toNat ≤ k by omega)
      have gb := hg.down (show (ns.getD k Nd.zero).b.toNat ≤ k by omega)
      have ra := szv_range ns _ ga.2
      have rb := szv_range ns _ gb.2
      exact appendTerm_two ns k hl hg hz h1 h4 (ih _ (by omega) ga (by omega)) (ih _ (by omega) gb (by omega)) (tx_len _ ga (by omega))

theorem implText_no (a : Option Addr) (cap : Nat) (ns : List Nd) (k : Int) (w : World) (hl : ns.length ≤ 1048576) (hr : RowN w.heap.size w a ns) (h : inB (sizeN ns k) 1 2000 = false) :
    Calls Tryz.prog 123 #[.agg #[.slice a ns.length cap], .int .i64 k] w fun e w' => e = .returned (.tuple #[.string ByteArray.empty, .bool false]) ∧ Below w.heap.size w w' := by
  have hb0 : Below w.heap.size w (w.alloc (.cells #[.slice a ns.length cap] 26)) := (Below.refl _ _).alloc (Nat.le_refl _) _
  have HS : Hid _ := implSize_any a cap ns k _ hl (hr.grown hb0)
  have HB : Hid _ := hb0
  have hrg := sizeN_range ns k
  have hs := inB_false h
  clear hr hb0 h
  generalize sizeN ns k = s at HS hrg hs
  by_cases h0 : s = 0
  · subst h0
    go_enter Tryz.func123, Tryz.ntmps123
    go_wp2_with fail
    refine Calls.mono HS.out ?_
    rintro e w1 ⟨rfl, hb1⟩
    go_wp2
    go_ret2
    exact ⟨rfl, HB.out.trans (hb1.mono HB.out.size)⟩
  · have h1 : (s == 0) = false := by simp [h0]
    have h2 : 2000 < s := by omega
    clear h0 hs
    go_enter Tryz.func123, Tryz.ntmps123
    go_wp2_with fail
    refine Calls.mono HS.out ?_
    rintro e w1 ⟨rfl, hb1⟩
    go_wp2
    go_ret2
    exact ⟨rfl, HB.out.trans (hb1.mono HB.out.size)⟩
set_option maxRecDepth 20000 in
theorem implText_yes (a : Option Addr) (cap : Nat) (ns : List Nd) (k : Nat) (w : World) (hl : ns.length ≤ 1048576) (hr : RowN w.heap.size w a ns) (hg : Good ns k) (h2 : szv ns k ≤ 2000) :
    Calls Tryz.prog 123 #[.agg #[.slice a ns.length cap], .int .i64 (k : Int)] w fun e w' => e = .returned (.tuple #[.string (strOfNums (tx ns k)), .bool true]) ∧ Below w.heap.size w w' := by
  have hb0 : Below w.heap.size w (w.alloc (.cells #[.slice a ns.length cap] 26)) := (Below.refl _ _).alloc (Nat.le_refl _) _
  have hcA : (w.alloc (.cells #[.slice a ns.length cap] 26)).cell? ⟨w.heap.size, 0, none⟩ = some (.slice a ns.length cap) := by rw [cell_of_row _ w.heap.size 0 _ _ _ (heap_alloc_new w _)]; rfl
  have HS : Hid _ := implSize_any a cap ns k _ hl (hr.grown hb0)
  rw [sizeN_in ns k hg.1] at HS
  have hrg := szv_range ns k hg.2
  have HA : Hid (AppT ns k) := appendTerm_any ns hl k hg h2
  have HR : Hid (RowN w.heap.size w a ns) := hr
  have h4 : ((([] : List Int).length : Nat) : Int) + 4 * szv ns k ≤ 100000 := by simp; omega
  have H4 : Hid _ := h4
  have h1 : (szv ns k == 0) = false := by simp; omega
  have h3 : ¬ 2000 < szv ns k := by omega
  have HB : Hid (Below w.heap.size w (w.alloc (.cells #[.slice a ns.length cap] 26))) := hb0
  clear hr h4 hrg hg h2
  go_enter Tryz.func123, Tryz.ntmps123
  go_wp2_with fail
  generalize w.alloc (.cells #[.slice a ns.length cap] 26) = w0 at hb0 hcA HS HB ⊢
  refine Calls.mono HS.out ?_
  rintro e w1 ⟨rfl, hb1⟩
  have hs0 : w.heap.size < w0.heap.size := World.block_lt_of_cell? w0 _ hcA
  have hc1 := (hb1.cell (p := ⟨w.heap.size, 0, none⟩) hs0).trans hcA
  have hB1 : Below w.heap.size w w1 := HB.out.trans (hb1.mono HB.out.size)
  have HR1 : Hid (RowN w1.heap.size w1 a ns) := HR.out.grown hB1
  clear hb0 hb1 HS HB hcA
  go_wp2_with fail
  refine (HA.out w1.heap.size a cap (.slice none 0 0) [] w1 H4.out (Nat.le_refl _) HR1.out (World.ownsRow_nil _ _ _ _)).mono ?_
  rintro e w2 ⟨v2, rfl, ho2, hg2, _⟩
  rw [List.nil_append] at ho2
  have hc := conv_own w2 22 9 5 Tryz.underlying22 Tryz.underlying5 Tryz.underlying9 (P := Tryz.prog) ho2
  have hB2 : Below w.heap.size w w2 := hB1.grown hg2 hB1.size (by simp [Value.ownBlock])
  clear ho2 hg2 hB1 HR1 HR HA
  go_wp2
  go_ret2
  exact ⟨rfl, hB2⟩
end Go.Proofs.YtaanophnnkmkbaaGreat

namespace Go.Proofs.YtaanophnnkmkbaaGreat
open Go.RowKit Go.PlainAid
set_option linter.unusedVariables false

/-- TermText. -/
def txB (ns : List Nd) (k : Int) : Bool := inB (sizeN ns k) 1 2000
def txS (ns : List Nd) (k : Int) : ByteArray := if txB ns k = true then strOfNums (tx ns k.toNat) else ByteArray.empty
theorem specTextV_any (a : Option Addr) (cap : Nat) (ns : List Nd) (k : Int) (w : World) (hl : ns.length ≤ 1048576) (hr : RowN w.heap.size w a ns) :
    Calls Tryz.prog 116 #[.agg #[.slice a ns.length cap], .int .i64 k] w fun e w' => e = .returned (.tuple #[.string (txS ns k), .bool (txB ns k)]) ∧ Below w.heap.size w w' := by
  cases h : txB ns k with
  | false =>
    have e : txS ns k = ByteArray.empty := by unfold txS; rw [h]; rfl
    rw [e]
    exact specText_no a cap ns k w hl hr h
  | true =>
    have e : txS ns k = strOfNums (tx ns k.toNat) := by unfold txS; rw [h]; rfl
    rw [e]
    have hb := inB_true h
    obtain ⟨i, rfl, hg, hsz⟩ := sizeN_good (show sizeN ns k ≠ 0 by omega)
    have := specText_yes a cap ns i w hl hr hg (by omega)
    simpa using this
theorem implTextV_any (a : Option Addr) (cap : Nat) (ns : List Nd) (k : Int) (w : World) (hl : ns.length ≤ 1048576) (hr : RowN w.heap.size w a ns) :
    Calls Tryz.prog 123 #[.agg #[.slice a ns.length cap], .int .i64 k] w fun e w' => e = .returned (.tuple #[.string (txS ns k), .bool (txB ns k)]) ∧ Below w.heap.size w w' := by
  cases h : txB ns k with
  | false =>
    have e : txS ns k = ByteArray.empty := by unfold txS; rw [h]; rfl
    rw [e]
    exact implText_no a cap ns k w hl hr h
  | true =>
    have e : txS ns k = strOfNums (tx ns k.toNat) := by unfold txS; rw [h]; rfl
    rw [e]
    have hb := inB_true h
    obtain ⟨i, rfl, hg, hsz⟩ := sizeN_good (show sizeN ns k ≠ 0 by omega)
    have := implText_yes a cap ns i w hl hr hg (by omega)
    simpa using this

/-- Bytes in their order. -/
theorem cmpB_range : ∀ a b : List UInt8, Lib.compareBytes a b = -1 ∨ Lib.compareBytes a b = 0 ∨ Lib.compareBytes a b = 1
  | [], [] => .inr (.inl rfl)
  | [], _ :: _ => .inl rfl
  | _ :: _, [] => .inr (.inr rfl)
  | x :: a, y :: b => by
    rw [Lib.compareBytes]
    split
    · exact .inl rfl
    · split
      · exact .inr (.inr rfl)
      · exact cmpB_range a b
theorem cmpB_zero : ∀ a b : List UInt8, Lib.compareBytes a b = 0 ↔ a = b
  | [], [] => by simp [Lib.compareBytes]
  | [], _ :: _ => by simp [Lib.compareBytes]
  | _ :: _, [] => by simp [Lib.compareBytes]
  | x :: a, y :: b => by
    rw [Lib.compareBytes]
    by_cases h1 : x < y
    · rw [if_pos h1]
      constructor
      · intro h; omega
      · intro h; simp only [List.cons.injEq] at h; rw [h.1] at h1; exact absurd h1 (UInt8.lt_irrefl y)
    · rw [if_neg h1]
      by_cases h2 : y < x
      · rw [if_pos h2]
        constructor
        · intro h; omega
        · intro h; simp only [List.cons.injEq] at h; rw [h.1] at h2; exact absurd h2 (UInt8.lt_irrefl y)
      · rw [if_neg h2, cmpB_zero a b, List.cons.injEq]
        have hxy : x = y := UInt8.le_antisymm (UInt8.not_lt.1 h2) (UInt8.not_lt.1 h1)
        exact ⟨fun h => ⟨hxy, h⟩, fun h => h.2⟩
theorem cmpB_less : ∀ a b : List UInt8, Op.bytesLess a b = decide (Lib.compareBytes a b = -1)
  | [], [] => rfl
  | [], _ :: _ => rfl
  | _ :: _, [] => rfl
  | x :: a, y :: b => by
    rw [Lib.compareBytes, Op.bytesLess]
    by_cases h1 : x < y
    · simp [h1]
    · rw [if_neg h1]
      by_cases h2 : y < x
      · have hne : (x == y) = false := by
          rw [beq_eq_false_iff_ne]; intro e; rw [e] at h2; exact UInt8.lt_irrefl y h2
        simp [h1, h2, hne]
      · have hxy : x = y := UInt8.le_antisymm (UInt8.not_lt.1 h2) (UInt8.not_lt.1 h1)
        rw [if_neg h2, cmpB_less a b]
        simp [hxy]
/-- How two texts compare. -/
def cmpS (s t : ByteArray) : Int := Lib.compareBytes s.data.toList t.data.toList
theorem cmpS_range (s t : ByteArray) : cmpS s t = -1 ∨ cmpS s t = 0 ∨ cmpS s t = 1 := cmpB_range _ _
theorem cmpS_eq (s t : ByteArray) : (s.toList == t.toList) = decide (cmpS s t = 0) := by
  unfold cmpS
  rw [ByteArray.toList_eq, ByteArray.toList_eq, Bool.eq_iff_iff, beq_iff_eq, decide_eq_true_iff]
  exact (cmpB_zero _ _).symm
theorem cmpS_gt (s t : ByteArray) : (!(Op.bytesLess s.toList t.toList || s.toList == t.toList)) = decide (cmpS s t = 1) := by
  rw [cmpS_eq, ByteArray.toList_eq, ByteArray.toList_eq, cmpB_less]
  have := cmpS_range s t
  unfold cmpS at this ⊢
  rcases this with h | h | h <;> rw [h] <;> rfl
theorem cmpS_less (s t : ByteArray) : Op.bytesLess s.toList t.toList = decide (cmpS s t = -1) := by
  rw [ByteArray.toList_eq, ByteArray.toList_eq, cmpB_less]; rfl
/-- Are the two to change places? -/
def swapB (ns : List Nd) (x y : Int) : Bool := decide (cmpS (txS ns x) (txS ns y) = 1) || (decide (cmpS (txS ns x) (txS ns y) = 0) && decide (y < x))

set_option maxRecDepth 100000 in
theorem cmpString_any (s t : ByteArray) (w : World) : Calls Tryz.prog 125 #[.string s, .string t] w fun e w' => e = .returned (.int .i64 (cmpS s t)) ∧ w = w' := by
  have H : Hid (Calls Tryz.prog 132 #[.string s, .string t] w fun e w' => e = .returned (.int .i64 (cmpS s t)) ∧ w = w') := by
    show Calls _ _ _ _ _
    go_enter Tryz.func132, Tryz.ntmps132
    go_wp2
    rw [run_callFunc_extern Tryz.func138 (by kernel_rfl) (by kernel_rfl) (by kernel_rfl) (e := Extern.BytealgCompare.compare) (by kernel_rfl), Lib.run_compareString]
    simp only [Result.andThen]
    rw [Oper.upon_value]
    go_wp2
    go_ret
    exact ⟨rfl, rfl⟩
  go_enter Tryz.func125, Tryz.ntmps125
  go_wp2_with fail
  refine Calls.mono H.out ?_
  rintro e w' ⟨rfl, rfl⟩
  go_wp2
  go_ret
  exact ⟨rfl, rfl⟩
/-- How two integers compare. -/
def cmpI (x y : Int) : Int := if x < y then -1 else if y < x then 1 else 0
theorem isNaN_any (x : Int) (w : World) : Calls Tryz.prog 133 #[.int .i64 x] w fun e w' => e = .returned (.bool false) ∧ w = w' := by
  go_enter Tryz.func133, Tryz.ntmps133
  go_wp2
  go_ret
  exact ⟨by simp, rfl⟩
theorem cmpInt_any (x y : Int) (w : World) : Calls Tryz.prog 126 #[.int .i64 x, .int .i64 y] w fun e w' => e = .returned (.int .i64 (cmpI x y)) ∧ w = w' := by
  by_cases h1 : x < y
  · have e : cmpI x y = -1 := by unfold cmpI; rw [if_pos h1]
    rw [e]
    clear e
    go_enter Tryz.func126, Tryz.ntmps126
    go_wp2_with fail
    refine (isNaN_any x _).mono ?_
    rintro e w1 ⟨rfl, rfl⟩
    go_wp2_with fail
    refine (isNaN_any y _).mono ?_
    rintro e w1 ⟨rfl, rfl⟩
    go_wp2
    go_ret
    exact ⟨rfl, rfl⟩
  · by_cases h2 : y < x
    · have e : cmpI x y = 1 := by unfold cmpI; rw [if_neg h1, if_pos h2]
      rw [e]
      clear e
      go_enter Tryz.func126, Tryz.ntmps126
      go_wp2_with fail
      refine (isNaN_any x _).mono ?_
      rintro e w1 ⟨rfl, rfl⟩
      go_wp2_with fail
      refine (isNaN_any y _).mono ?_
      rintro e w1 ⟨rfl, rfl⟩
      go_wp2
      go_ret
      exact ⟨rfl, rfl⟩
    · have e : cmpI x y = 0 := by unfold cmpI; rw [if_neg h1, if_neg h2]
      rw [e]
      clear e
      go_enter Tryz.func126, Tryz.ntmps126
      go_wp2_with fail
      refine (isNaN_any x _).mono ?_
      rintro e w1 ⟨rfl, rfl⟩
      go_wp2_with fail
      refine (isNaN_any y _).mono ?_
      rintro e w1 ⟨rfl, rfl⟩
      go_wp2
      go_ret
      exact ⟨rfl, rfl⟩
/-- cmp.Or of two. -/
theorem orOf_any (b : Nat) (c d : Int) (w : World) (h0 : w.cell? ⟨b, 0, none⟩ = some (.int .i64 c)) (h1 : w.cell? ⟨b, 1, none⟩ = some (.int .i64 d)) :
    Calls Tryz.prog 124 #[.slice (some ⟨b, 0, none⟩) 2 2] w fun e w' => e = .returned (.int .i64 (if c = 0 then d else c)) ∧ w = w' := by
  obtain ⟨r, HR, hrr⟩ : ∃ r, Hid ((if c = 0 then d else c) = r) ∧ (if c = 0 then d else c) = r := ⟨_, rfl, rfl⟩
  rw [hrr]
  clear hrr
  go_enter Tryz.func124, Tryz.ntmps124
  go_wp2
  go_loopw [8] (fun i wr => ∃ k : Nat, k ≤ 2 ∧ i = .int .i64 (k : Int) ∧ (1 ≤ k → c = 0) ∧ (2 ≤ k → d = 0) ∧ w = wr)
    (fun i _ => 2 - (intOf i).toNat)
  case atStart => exact ⟨0, by omega, rfl, fun h => by omega, fun h => by omega, rfl⟩
  case round =>
    obtain ⟨k, hk, rfl, hc, hd, rfl⟩ := hrel
    rcases (show k = 0 ∨ k = 1 ∨ k = 2 by omega) with rfl | rfl | rfl
    · by_cases hc0 : c = 0
      · have hz : (c == 0) = true := by simp [hc0]
        have hz' : (c != 0) = false := by simp [hc0]
        go_wp2
        go_roundw
        case rel => exact ⟨1, by omega, by go_num, fun _ => hc0, fun h => by omega, by first | rfl | trivial⟩
        case measure => simp [intOf]
      · have hz : (c == 0) = false := by simp [hc0]
        have hz' : (c != 0) = true := by simp [hc0]
        have HE : Hid (c = r) := by show _ = _; rw [← HR.out, if_neg hc0]
        clear hc hd hc0 hk
        go_wp2
        go_ret
        exact ⟨by rw [← HE.out]; rfl, rfl⟩
    · obtain rfl := hc (by omega)
      have HE : Hid (d = r) := by show _ = _; rw [← HR.out, if_pos rfl]
      by_cases hd0 : d = 0
      · have hz' : (d != 0) = false := by simp [hd0]
        go_wp2
        go_roundw
        case rel => exact ⟨2, by omega, by go_num, fun _ => by first | rfl | trivial, fun h => hd0, by first | rfl | trivial⟩
        case measure => simp [intOf]
      · have hz' : (d != 0) = true := by simp [hd0]
        clear hc hd hd0 hk
        go_wp2
        go_ret
        exact ⟨by rw [← HE.out]; rfl, rfl⟩
    · obtain rfl := hc (by omega)
      obtain rfl := hd (by omega)
      have HE : Hid (0 = r) := by show _ = _; rw [← HR.out, if_pos rfl]
      clear hc hd hk
      go_wp2
      go_ret
      exact ⟨by rw [← HE.out]; rfl, rfl⟩
end Go.Proofs.YtaanophnnkmkbaaGreat

namespace Go.Proofs.YtaanophnnkmkbaaGreat
open Go.RowKit Go.PlainAid
set_option linter.unusedVariables false
theorem list6 {α : Type} (l : List α) (h : l.length = 6) : ∃ a0 a1 a2 a3 a4 a5, l = [a0, a1, a2, a3, a4, a5] := by
  match l, h with
  | [a0, a1, a2, a3, a4, a5], _ => exact ⟨a0, a1, a2, a3, a4, a5, rfl⟩
theorem txS_size (ns : List Nd) (k : Int) : (txS ns k).size ≤ 8000 := by
  unfold txS
  split
  · rename_i h
    have hb := inB_true h
    obtain ⟨i, rfl, hg, hsz⟩ := sizeN_good (show sizeN ns k ≠ 0 by omega)
    have := tx_len i hg (by omega)
    rw [Int.toNat_natCast, strOfNums_size]
    omega
  · simp
theorem extract_size (s : ByteArray) (i j : Nat) : (s.extract i j).size ≤ s.size := by rw [ByteArray.size_extract]; omega
theorem sliceTo (s : ByteArray) (i : Nat) (h : i ≤ s.size) (w : World) : (Instr.slice 9 (.string s) none (some (.int .i64 (i : Int))) none).run Tryz.prog w = .ok (.string (s.extract 0 i)) w := by
  have h1 : (0 : Int) ≤ (i : Int) := by omega
  have h2 : (i : Int) ≤ (s.size : Int) := by omega
  simp [go_sem, Tryz.underlying9, h1, h2]
theorem sliceFrom (s : ByteArray) (i : Nat) (h : i + 1 ≤ s.size) (w : World) : (Instr.slice 9 (.string s) (some (.int .i64 ((i : Int) + 1))) none none).run Tryz.prog w = .ok (.string (s.extract (i + 1) s.size)) w := by
  have h1 : (0 : Int) ≤ (i : Int) + 1 := by omega
  have h2 : (i : Int) + 1 ≤ (s.size : Int) := by omega
  simp [go_sem, Tryz.underlying9, h1, h2]
end Go.Proofs.YtaanophnnkmkbaaGreat

namespace Go.Proofs.YtaanophnnkmkbaaGreat
open Go.RowKit Go.PlainAid
set_option linter.unusedVariables false
/-- The cursor stays where a box of another kind is written. -/
theorem cur_set {B g r : Nat} {w : World} {a' : Option Addr} {n c : Nat} {v : Value} (h : Cur B w g) (hr : w.heap[r]? = some (.cells #[.slice a' n c] 26 (0, 0))) (hne : r ≠ g) : Cur B (w.setCell ⟨r, 0, none⟩ v) g := by
  obtain ⟨h1, h2, a, len, cap, i, hh, h3, h4, h5⟩ := h
  refine ⟨h1, by simpa using h2, a, len, cap, i, hh, h3, ⟨h4.1, ?_⟩, (Below.heap_setCell _ _ _ _ (by simpa using Ne.symm hne)).trans h5⟩
  rcases h4.2 with h0 | ⟨b, off, rfl, hbB, hc⟩
  · exact .inl h0
  · refine .inr ⟨b, off, rfl, hbB, fun j hj => ?_⟩
    obtain ⟨z, hz, h6⟩ := hc j hj
    by_cases e : b = r
    · subst e
      rw [cell_of_row w b (off + j) _ _ _ hr] at hz
      rcases Nat.eq_zero_or_pos (off + j) with e0 | e0
      · rw [e0] at hz; simp at hz
      · rw [Array.getElem?_eq_none (by simp; omega)] at hz; simp at hz
    · refine ⟨z, ?_, h6⟩
      rw [World.cell?_of_block (w := w) (Below.heap_setCell _ _ _ _ (by simpa using e))]; exact hz
set_option maxHeartbeats 800000 in
theorem drawArena_any (a : Option Addr) (len cap : Nat) (w : World) (hc : CodeIn w.heap.size w a len) :
    Calls Tryz.prog 5 #[.slice a len cap] w fun e w' => ∃ v ns, e = .returned (.agg #[v]) ∧ 1 ≤ ns.length ∧ ns.length ≤ 13 ∧ allFrom ns ns 0 = true ∧ OwnN w.heap.size w' v ns ∧ Below w.heap.size w w' := by
  have hb0 : Below w.heap.size w (w.alloc (.cells #[.slice none 0 0] 26)) := (Below.refl _ _).alloc (Nat.le_refl _) _
  have hx0 := heap_alloc_new w (.cells #[.slice none 0 0] 26)
  have hc0 := codeIn_later hc hb0
  have hs0 : (w.alloc (.cells #[.slice none 0 0] 26)).heap.size = w.heap.size + 1 := by simp
  clear hc
  go_enter Tryz.func5, Tryz.ntmps5
  go_wp2_with fail
  generalize w.alloc (.cells #[.slice none 0 0] 26) = w0 at hb0 hx0 hc0 hs0 ⊢
  refine (new_any _ _ _ _ hc0).mono ?_
  rintro e w1 ⟨g, rfl, hc1, hb1⟩
  have hge := hc1.1
  go_wp2_with fail
  refine (arena_any w0.heap.size g _ hc1).mono ?_
  rintro e w2 ⟨v2, ns, rfl, hn1, hn2, hall, ho2, hc2, hg2⟩
  have hs1 := hb1.size
  have hs2 := hg2.size
  have hB2 : Below w0.heap.size w0 w2 := hb1.grown hg2 hb1.size (fun k hk => by cases hk; exact hge)
  obtain ⟨a2, cap2, rfl, _, _⟩ := ho2.row
  have hx2 := (hB2.block w.heap.size (by omega)).trans hx0
  have r0 : w2.cell? ⟨w.heap.size, 0, none⟩ = some (.slice none 0 0) := (cell_of_row _ _ 0 _ _ _ hx2).trans rfl
  have f0 : w2.frozen? ⟨w.heap.size, 0, none⟩ = false := frozen_of_row _ _ 0 _ _ hx2
  have HBL : Hid ((w2.setCell ⟨w.heap.size, 0, none⟩ (.slice a2 ns.length cap2)).heap[w.heap.size]? = some (.cells #[.slice a2 ns.length cap2] 26 (0, 0))) := (heap_setCell_same _ _ 0 _ _ _ hx2).trans rfl
  have HO : Hid (OwnN w.heap.size (w2.setCell ⟨w.heap.size, 0, none⟩ (.slice a2 ns.length cap2)) (.slice a2 ns.length cap2) ns) := OwnN.base (ownsRow_setCell_below ho2 (show w.heap.size < w1.heap.size by omega) _) (by omega)
  have HB : Hid (Below w.heap.size w (w2.setCell ⟨w.heap.size, 0, none⟩ (.slice a2 ns.length cap2))) := (hb0.trans (hB2.mono (by omega))).setCell (Nat.le_refl _) _
  have HALL : Hid _ := hall
  clear hc0 hc1 hc2 hg2 hb1 hx0 hx2 hB2 hb0 ho2 hall
  go_wp2
  refine bodyPost_ret (results_cell_row rfl _ _ w.heap.size 26 #[.slice a2 ns.length cap2] (0, 0) _ rfl ?_ Tryz.underlying26 rfl arenaSize) rfl ?_
  · exact HBL.out
  · exact ⟨_, ns, rfl, hn1, hn2, HALL.out, HO.out, HB.out⟩
end Go.Proofs.YtaanophnnkmkbaaGreat
