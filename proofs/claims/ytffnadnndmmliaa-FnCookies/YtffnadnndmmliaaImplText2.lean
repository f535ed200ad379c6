/- The contracts of chapter 3's TermText, the program's: appendTerm of terms with others, TermText. -/
import Derived.Test.YtffnadnndmmliaaAppStr
import Derived.WalkKit
import Derived.WalkLawsBesides
import Derived.WalkSpells
namespace Go.Proofs.Ytffnadnndmmliaa
open Go.RowKit
set_option linter.unusedVariables false

set_option maxHeartbeats 1600000 in
set_option maxRecDepth 20000 in
theorem appendTerm_one (ns : List Nd) (k : Nat) (hl : ns.length ≤ 1048576) (hg : Good ns k) (hz : szv ns k ≤ 2000) (hk2 : 2 ≤ (ns.getD k Nd.zero).k) (hone : oneK (ns.getD k Nd.zero).k = true) (ih : AppT ns (ns.getD k Nd.zero).a.toNat) : AppT ns k := by
  intro base a cap v xs w hb hbw hr hown
  have hkl := hg.1
  have HT : Hid _ := tx_one hg hk2 hone
  have hsk := szv_kids hg hz
  unfold szSum at hsk
  rw [if_neg (by omega), if_pos hone] at hsk
  have hkk := right_kind (hg.2 k (Nat.le_refl _))
  have hna : 0 ≤ (ns.getD k Nd.zero).a := by rcases nodeB_true (hg.2 k (Nat.le_refl _)) with h | h | h <;> omega
  obtain ⟨b, off, rfl⟩ := hr.addr hkl
  obtain ⟨hbb, c0, c1, c2, c3⟩ := hr.at (Below.refl _ _) hkl
  have hi0 : (0 : Int) ≤ (k : Int) := by omega
  have hi1 : (k : Int) < (ns.length : Int) := by omega
  have HR : Hid (RowN base w (some ⟨b, off, none⟩) ns) := hr
  generalize ns.getD k Nd.zero = y at c0 c1 c2 c3 HT hk2 hone ih hsk hkk hna
  obtain ⟨yk, yn, ya, yb⟩ := y
  dsimp only at c0 c1 c2 c3 hk2 hone HT ih hsk hkk hna
  obtain ⟨p, rfl⟩ : ∃ p : Nat, ya = (p : Int) := ⟨ya.toNat, by omega⟩
  obtain ⟨q, rfl⟩ : ∃ q : Nat, yk = (q : Int) := ⟨yk.toNat, by omega⟩
  rw [Int.toNat_natCast] at ih hsk HT
  rw [Int.toNat_natCast] at HT
  have HXL : Hid ((xs ++ vb q).length = xs.length + 1) := by show _ = _; rw [vb_small (by omega)]; simp
  have hxl : ((xs ++ vb q).length : Int) + 4 * szv ns p ≤ 100000 := by rw [HXL.out]; omega
  have hx0 : xs.length ≤ 100000 := by have := szv_le ns k; omega
  have ha := as_oneTerm_atomTerm
  have ho := as_oneTerm_oneTerm
  have HON : Hid ((q : Int) = 3 ∨ (q : Int) = 6) := by show _ ∨ _; unfold oneK at hone; simpa using hone
  have HIH : Hid (AppT ns p) := ih
  have hq9 : q ≤ 1000000000 := by omega
  have HX4 : Hid _ := hxl
  clear hr hb hg hz ih hsk hone hk2 hkk hna hxl
  go_enter Try.func90, Try.ntmps90
  go_wp2_with fail
  refine (appendVar_any base v xs q _ hq9 hx0 hbw hown).mono ?_
  rintro e w1 ⟨v1, rfl, ho1, hg1, hl1⟩
  have hb1 : Below base w w1 := (Below.refl _ _).grown hg1 hbw (fun k hk => (hown.lt k hk).1)
  have d0 := (hb1.cell (p := ⟨b, off + k * 4, none⟩) hbb).trans c0
  have d1 := (hb1.cell (p := ⟨b, off + k * 4 + 1, none⟩) hbb).trans c1
  have d2 := (hb1.cell (p := ⟨b, off + k * 4 + 2, none⟩) hbb).trans c2
  have d3 := (hb1.cell (p := ⟨b, off + k * 4 + 3, none⟩) hbb).trans c3
  have hs1 := hb1.size
  clear c0 c1 c2 c3 hown
  go_wp2_with fail
  refine (termOf_one q yn p yb _ HON.out).mono ?_
  rintro e w2 ⟨rfl, hb2⟩
  have ho2 := own_next ho1 hb2
  have HO2 : Hid (World.ownsRow _ _ _ _ _ _ _) := ho2.alloc (.cells #[.int .i64 (q : Int), .int .i64 (p : Int)] 156)
  have hB2 : Below base w w2 := hb1.trans (hb2.mono (by omega))
  have hs2 := hb2.size
  have HR2 : Hid _ := HR.out.later (hB2.alloc (show base ≤ w2.heap.size by omega) (.cells #[.int .i64 (q : Int), .int .i64 (p : Int)] 156))
  have hG2 := gb_more hg1 hb2
  clear ho1 ho2 hb1 hb2 hg1 hB2 d0 d1 d2 d3
  go_wp2_with fail
  refine (HIH.out base (some ⟨b, off, none⟩) cap v1 (xs ++ vb q) _ HX4.out (by simp; omega) HR2.out HO2.out).mono ?_
  rintro e w3 ⟨v3, rfl, ho3, hg3, hl3⟩
  have HO3 : Hid (w3.ownsRow base 5 1 v3 (xs ++ tx ns k).length ((xs ++ tx ns k).map (Value.int .u8))) := by
    show World.ownsRow _ _ _ _ _ _ _
    rw [HT.out, ← List.append_assoc]; exact ho3
  have HG3 : Hid (w.grownBy w3 v.ownBlock ∧ Lies w v v3) := ⟨gb_then (gb_more hG2 ((Below.refl _ _).alloc (Nat.le_refl _) _)) hl1 hg3, hl1.next (by simp; omega) hl3⟩
  clear ho3 hg3 hl3 HO2 hG2 hl1 HR2 HR
  go_wp2
  go_ret
  exact ⟨_, rfl, HO3.out, HG3.out.1, HG3.out.2⟩
set_option maxHeartbeats 1600000 in
set_option maxRecDepth 20000 in
theorem appendTerm_two (ns : List Nd) (k : Nat) (hl : ns.length ≤ 1048576) (hg : Good ns k) (hz : szv ns k ≤ 2000) (hk2 : 2 ≤ (ns.getD k Nd.zero).k) (hone : oneK (ns.getD k Nd.zero).k = false) (ih : AppT ns (ns.getD k Nd.zero).a.toNat) (ih2 : AppT ns (ns.getD k Nd.zero).b.toNat) (hlen : ((tx ns (ns.getD k Nd.zero).a.toNat).length : Int) ≤ 4 * szv ns (ns.getD k Nd.zero).a.toNat) : AppT ns k := by
  intro base a cap v xs w hb hbw hr hown
  have hkl := hg.1
  have HT : Hid _ := tx_two hg hk2 hone
  have hsk := szv_kids hg hz
  unfold szSum at hsk
  rw [if_neg (by omega), if_neg (one_no hone)] at hsk
  have hkk := right_kind (hg.2 k (Nat.le_refl _))
  have hna : 0 ≤ (ns.getD k Nd.zero).a ∧ 0 ≤ (ns.getD k Nd.zero).b := by rcases nodeB_true (hg.2 k (Nat.le_refl _)) with h | h | h <;> omega
  obtain ⟨b, off, rfl⟩ := hr.addr hkl
  obtain ⟨hbb, c0, c1, c2, c3⟩ := hr.at (Below.refl _ _) hkl
  have hi0 : (0 : Int) ≤ (k : Int) := by omega
  have hi1 : (k : Int) < (ns.length : Int) := by omega
  have HR : Hid (RowN base w (some ⟨b, off, none⟩) ns) := hr
  generalize ns.getD k Nd.zero = y at c0 c1 c2 c3 HT hk2 hone ih ih2 hsk hkk hna hlen
  obtain ⟨yk, yn, ya, yb⟩ := y
  dsimp only at c0 c1 c2 c3 hk2 hone HT ih ih2 hsk hkk hna hlen
  obtain ⟨p, rfl⟩ : ∃ p : Nat, ya = (p : Int) := ⟨ya.toNat, by omega⟩
  obtain ⟨r, rfl⟩ : ∃ r : Nat, yb = (r : Int) := ⟨yb.toNat, by omega⟩
  obtain ⟨q, rfl⟩ : ∃ q : Nat, yk = (q : Int) := ⟨yk.toNat, by omega⟩
  simp only [Int.toNat_natCast] at ih ih2 hsk HT hlen
  have HXL : Hid ((xs ++ vb q).length = xs.length + 1) := by show _ = _; rw [vb_small (by omega)]; simp
  have hp0 := szv_le ns p
  have hr0 := szv_le ns r
  have HX4 : Hid (((xs ++ vb q).length : Int) + 4 * szv ns p ≤ 100000) := by show _ ≤ _; rw [HXL.out]; omega
  have HX5 : Hid (((xs ++ vb q ++ tx ns p).length : Int) + 4 * szv ns r ≤ 100000) := by show _ ≤ _; rw [List.length_append, HXL.out]; omega
  have hx0 : xs.length ≤ 100000 := by omega
  have ha := as_twoTerm_atomTerm
  have ho := as_twoTerm_oneTerm
  have ht := as_twoTerm_twoTerm
  have HON : Hid ((q : Int) = 2 ∨ (q : Int) = 4 ∨ (q : Int) = 5 ∨ (q : Int) = 7 ∨ (q : Int) = 8 ∨ (q : Int) = 9) := by
    show _ ∨ _
    unfold oneK at hone; simp at hone; omega
  have HIH : Hid (AppT ns p) := ih
  have HIH2 : Hid (AppT ns r) := ih2
  have hq9 : q ≤ 1000000000 := by omega
  clear hr hb hg hz ih ih2 hsk hone hk2 hkk hna hp0 hr0 hlen
  go_enter Try.func90, Try.ntmps90
  go_wp2_with fail
  refine (appendVar_any base v xs q _ hq9 hx0 hbw hown).mono ?_
  rintro e w1 ⟨v1, rfl, ho1, hg1, hl1⟩
  have hb1 : Below base w w1 := (Below.refl _ _).grown hg1 hbw (fun k hk => (hown.lt k hk).1)
  have d0 := (hb1.cell (p := ⟨b, off + k * 4, none⟩) hbb).trans c0
  have d1 := (hb1.cell (p := ⟨b, off + k * 4 + 1, none⟩) hbb).trans c1
  have d2 := (hb1.cell (p := ⟨b, off + k * 4 + 2, none⟩) hbb).trans c2
  have d3 := (hb1.cell (p := ⟨b, off + k * 4 + 3, none⟩) hbb).trans c3
  have hs1 := hb1.size
  clear c0 c1 c2 c3 hown
  go_wp2_with fail
  refine (termOf_two q yn p r _ HON.out).mono ?_
  rintro e w2 ⟨rfl, hb2⟩
  have ho2 := own_next ho1 hb2
  have HO2 : Hid (World.ownsRow _ _ _ _ _ _ _) := ho2.alloc (.cells #[.int .i64 (q : Int), .int .i64 (p : Int), .int .i64 (r : Int)] 158)
  have hB2 : Below base w w2 := hb1.trans (hb2.mono (by omega))
  have hs2 := hb2.size
  have HR2 : Hid (RowN base _ (some ⟨b, off, none⟩) ns) := HR.out.later (hB2.alloc (show base ≤ w2.heap.size by omega) (.cells #[.int .i64 (q : Int), .int .i64 (p : Int), .int .i64 (r : Int)] 158))
  have hne : v1.ownBlock ≠ some w2.heap.size := fun e => by have := (ho2.lt _ e).2; omega
  have hG2 : w.grownBy (w2.alloc (.cells #[.int .i64 (q : Int), .int .i64 (p : Int), .int .i64 (r : Int)] 158)) v.ownBlock := gb_more (gb_more hg1 hb2) ((Below.refl _ _).alloc (Nat.le_refl _) _)
  have hbox := cell_of_row _ w2.heap.size 2 _ _ _ (heap_alloc_new w2 (.cells #[.int .i64 (q : Int), .int .i64 (p : Int), .int .i64 (r : Int)] 158))
  have HBX : Hid ((w2.alloc (.cells #[.int .i64 (q : Int), .int .i64 (p : Int), .int .i64 (r : Int)] 158)).cell? ⟨w2.heap.size, 2, none⟩ = some (.int .i64 (r : Int))) := hbox.trans rfl
  have hsA : (w2.alloc (.cells #[.int .i64 (q : Int), .int .i64 (p : Int), .int .i64 (r : Int)] 158)).heap.size = w2.heap.size + 1 := by simp
  clear ho1 ho2 hb1 hb2 hg1 hB2 d0 d1 d2 d3 hbox
  go_wp2_with fail
  generalize w2.alloc (.cells #[.int .i64 (q : Int), .int .i64 (p : Int), .int .i64 (r : Int)] 158) = wA at HO2 HR2 hG2 HBX hsA ⊢
  refine (HIH.out base (some ⟨b, off, none⟩) cap v1 (xs ++ vb q) wA HX4.out (by omega) HR2.out HO2.out).mono ?_
  rintro e w3 ⟨v3, rfl, ho3, hg3, hl3⟩
  have hx3 := cell_gb hg3 (by omega) hne HBX.out
  have HO3 : Hid (World.ownsRow _ _ _ _ _ _ _) := ho3
  have HR3 : Hid (RowN base w3 (some ⟨b, off, none⟩) ns) := HR2.out.later ((Below.refl _ _).grown hg3 (by omega) (fun k hk => (HO2.out.lt k hk).1))
  have hs3 := hg3.size
  have HG3 : Hid (w.grownBy w3 v.ownBlock ∧ Lies w v v3) := ⟨gb_then hG2 hl1 hg3, hl1.next (by omega) hl3⟩
  clear ho3 hg3 hl3 hG2 HO2 HR2 HBX hl1
  go_wp2_with fail
  refine (HIH2.out base (some ⟨b, off, none⟩) cap v3 (xs ++ vb q ++ tx ns p) w3 HX5.out (by omega) HR3.out HO3.out).mono ?_
  rintro e w4 ⟨v4, rfl, ho4, hg4, hl4⟩
  have HO4 : Hid (w4.ownsRow base 5 1 v4 (xs ++ tx ns k).length ((xs ++ tx ns k).map (Value.int .u8))) := by
    show World.ownsRow _ _ _ _ _ _ _
    rw [HT.out, ← List.append_assoc, ← List.append_assoc]; exact ho4
  have HG4 : Hid (w.grownBy w4 v.ownBlock ∧ Lies w v v4) := ⟨gb_then HG3.out.1 HG3.out.2 hg4, HG3.out.2.next HG3.out.1.size hl4⟩
  clear ho4 hg4 hl4 HO3 HR3 HG3
  go_wp2
  go_ret
  exact ⟨_, rfl, HO4.out, HG4.out.1, HG4.out.2⟩
theorem appendTerm_any (ns : List Nd) (hl : ns.length ≤ 1048576) : ∀ k, Good ns k → szv ns k ≤ 2000 → AppT ns k := by
  intro k
  induction k using Nat.strongRecOn with
  | ind k ih =>
    intro hg hz
    have hsk := szv_kids hg hz
    unfold szSum at hsk
    rcases nodeB_true (hg.2 k (Nat.le_refl _)) with ⟨h1, _⟩ | ⟨h1, _, _, h2, h3, h4, _⟩ | ⟨h1, _, _, h2, h3, h4, h5, h6⟩
    · exact appendTerm_atom ns k hl hg hz h1
    · rw [if_neg (by omega), if_pos h4] at hsk
      have ga := hg.down (show (ns.getD k Nd.zero).a.toNat ≤ k by omega)
      exact appendTerm_one ns k hl hg hz h1 h4 (ih _ (by omega) ga (by have := szv_range ns _ ga.2; omega))
    · rw [if_neg (by omega), if_neg (one_no h4)] at hsk
      have ga := hg.down (show (ns.getD k Nd.zero).a.toNat ≤ k by omega)
      have gb := hg.down (show (ns.getD k Nd.zero).b.toNat ≤ k by omega)
      have ra := szv_range ns _ ga.2
      have rb := szv_range ns _ gb.2
      exact appendTerm_two ns k hl hg hz h1 h4 (ih _ (by omega) ga (by omega)) (ih _ (by omega) gb (by omega)) (tx_len _ ga (by omega))

theorem implText_no (a : Option Addr) (cap : Nat) (ns : List Nd) (k : Int) (w : World) (hl : ns.length ≤ 1048576) (hr : RowN w.heap.size w a ns) (h : inB (sizeN ns k) 1 2000 = false) :
    Calls Try.prog 25 #[.agg #[.slice a ns.length cap], .int .i64 k] w fun e w' => e = .returned (.tuple #[.string ByteArray.empty, .bool false]) ∧ Below w.heap.size w w' := by
  have hb0 : Below w.heap.size w (w.alloc (.cells #[.slice a ns.length cap] 28)) := (Below.refl _ _).alloc (Nat.le_refl _) _
  have HS : Hid _ := implSize_any a cap ns k _ hl (hr.grown hb0)
  have HB : Hid _ := hb0
  have hrg := sizeN_range ns k
  have hs := inB_false h
  clear hr hb0 h
  generalize sizeN ns k = s at HS hrg hs
  by_cases h0 : s = 0
  · subst h0
    go_enter Try.func25, Try.ntmps25
    go_wp2_with fail
    refine Calls.mono HS.out ?_
    rintro e w1 ⟨rfl, hb1⟩
    go_wp2
    go_ret2
    exact ⟨rfl, HB.out.trans (hb1.mono HB.out.size)⟩
  · have h1 : (s == 0) = false := by simp [h0]
    have h2 : 2000 < s := by omega
    clear h0 hs
    go_enter Try.func25, Try.ntmps25
    go_wp2_with fail
    refine Calls.mono HS.out ?_
    rintro e w1 ⟨rfl, hb1⟩
    go_wp2
    go_ret2
    exact ⟨rfl, HB.out.trans (hb1.mono HB.out.size)⟩
set_option maxRecDepth 20000 in
theorem implText_yes (a : Option Addr) (cap : Nat) (ns : List Nd) (k : Nat) (w : World) (hl : ns.length ≤ 1048576) (hr : RowN w.heap.size w a ns) (hg : Good ns k) (h2 : szv ns k ≤ 2000) :
    Calls Try.prog 25 #[.agg #[.slice a ns.length cap], .int .i64 (k : Int)] w fun e w' => e = .returned (.tuple #[.string (strOfNums (tx ns k)), .bool true]) ∧ Below w.heap.size w w' := by
  have hb0 : Below w.heap.size w (w.alloc (.cells #[.slice a ns.length cap] 28)) := (Below.refl _ _).alloc (Nat.le_refl _) _
  have hcA : (w.alloc (.cells #[.slice a ns.length cap] 28)).cell? ⟨w.heap.size, 0, none⟩ = some (.slice a ns.length cap) := by rw [cell_of_row _ w.heap.size 0 _ _ _ (heap_alloc_new w _)]; rfl
  have HS : Hid _ := implSize_any a cap ns k _ hl (hr.grown hb0)
  rw [sizeN_in ns k hg.1] at HS
  have hrg := szv_range ns k hg.2
  have HA : Hid (AppT ns k) := appendTerm_any ns hl k hg h2
  have HR : Hid (RowN w.heap.size w a ns) := hr
  have h4 : ((([] : List Int).length : Nat) : Int) + 4 * szv ns k ≤ 100000 := by simp; omega
  have H4 : Hid _ := h4
  have h1 : (szv ns k == 0) = false := by simp; omega
  have h3 : ¬ 2000 < szv ns k := by omega
  have HB : Hid (Below w.heap.size w (w.alloc (.cells #[.slice a ns.length cap] 28))) := hb0
  clear hr h4 hrg hg h2
  go_enter Try.func25, Try.ntmps25
  go_wp2_with fail
  generalize w.alloc (.cells #[.slice a ns.length cap] 28) = w0 at hb0 hcA HS HB ⊢
  refine Calls.mono HS.out ?_
  rintro e w1 ⟨rfl, hb1⟩
  have hs0 : w.heap.size < w0.heap.size := World.block_lt_of_cell? w0 _ hcA
  have hc1 := (hb1.cell (p := ⟨w.heap.size, 0, none⟩) hs0).trans hcA
  have hB1 : Below w.heap.size w w1 := HB.out.trans (hb1.mono HB.out.size)
  have HR1 : Hid (RowN w1.heap.size w1 a ns) := HR.out.grown hB1
  clear hb0 hb1 HS HB hcA
  go_wp2_with fail
  refine (HA.out w1.heap.size a cap (.slice none 0 0) [] w1 H4.out (Nat.le_refl _) HR1.out (World.ownsRow_nil _ _ _ _)).mono ?_
  rintro e w2 ⟨v2, rfl, ho2, hg2, _⟩
  rw [List.nil_append] at ho2
  have hc := conv_own w2 35 9 5 Try.underlying35 Try.underlying5 Try.underlying9 (P := Try.prog) ho2
  have hB2 : Below w.heap.size w w2 := hB1.grown hg2 hB1.size (by simp [Value.ownBlock])
  clear ho2 hg2 hB1 HR1 HR HA
  go_wp2
  go_ret2
  exact ⟨rfl, hB2⟩
end Go.Proofs.Ytffnadnndmmliaa
