/- The contract of chapter 3's SizeOf, the program's. -/
import Derived.Test.YtffnadnndmmliaaImplR
import Derived.WalkKit
import Derived.WalkLawsBesides
import Derived.WalkSpells
import Derived.OwnWalk
import Derived.Deep.QuietTactic
import Derived.BigQuiet
namespace Go.Proofs.Ytffnadnndmmliaa
open Go.RowKit
set_option linter.unusedVariables false

/-- .. of a term with two. -/
theorem sizeWith_two (k : Int) (p q g n cap : Nat) (x1 x2 : Int) (w : World) (hp : p < n) (hq : q < n) (hg : g < w.heap.size) (h0 : 0 ≤ x1) (h1 : x1 ≤ 100000) (h2 : 0 ≤ x2) (h3 : x2 ≤ 100000) (hc : w.cell? ⟨g, p, none⟩ = some (.int .i64 x1)) (hd : w.cell? ⟨g, q, none⟩ = some (.int .i64 x2)) :
    Calls Try.prog 96 #[.iface 158 (.agg #[.int .i64 k, .int .i64 (p : Int), .int .i64 (q : Int)]), .slice (some ⟨g, 0, none⟩) n cap] w fun e w' => e = .returned (.int .i64 (if 100000 < 1 + x1 + x2 then 100000 else 1 + x1 + x2)) ∧ Below w.heap.size w w' := by
  have ho := as_twoTerm_oneTerm
  have ht := as_twoTerm_twoTerm
  have hp0 : (0 : Int) ≤ (p : Int) := by omega
  have hp1 : (p : Int) < (n : Int) := by omega
  have hq0 : (0 : Int) ≤ (q : Int) := by omega
  have hq1 : (q : Int) < (n : Int) := by omega
  have he : 1 + x1 + x2 = 1 + (x1 + x2) := by omega
  rw [he]
  clear he
  by_cases h : 100000 < 1 + (x1 + x2)
  · rw [if_pos h]
    go_enter Try.func96, Try.ntmps96
    go_wp2
    go_quiet (fail)
    go_wp2
    go_ret
    exact ⟨rfl, below_dn ((Below.refl _ _).alloc (Nat.le_refl _) _) _⟩
  · rw [if_neg h]
    go_enter Try.func96, Try.ntmps96
    go_wp2
    go_quiet (fail)
    go_wp2
    go_ret
    exact ⟨rfl, below_dn ((Below.refl _ _).alloc (Nat.le_refl _) _) _⟩

/-- What a row of sizes holds up to i. -/
theorem sizes_cells {ns : List Nd} {w : World} {base g n i : Nat} {xs : List Value} (h : w.ownsRow base 3 1 (.slice (some ⟨g, 0, none⟩) n n) n xs) (ht : xs.take i = (sizesN ns i).map (Value.int .i64)) (hi : i ≤ n) : ∀ j, j < i → w.cell? ⟨g, j, none⟩ = some (.int .i64 (szv ns j)) := by
  intro j hj
  rw [h.cellAt j (by omega)]
  have : xs[j]? = (xs.take i)[j]? := by rw [List.getElem?_take, if_pos hj]
  rw [this, ht, List.getElem?_map]
  have e := szv_at ns i j hj
  rw [List.getD_eq_getElem?_getD, List.getElem?_eq_getElem (by rw [sizesN_len]; exact hj)] at e
  rw [List.getElem?_eq_getElem (by rw [sizesN_len]; exact hj)]
  simp only [Option.getD_some] at e
  rw [e]; rfl
theorem sizes_set {ns : List Nd} {xs : List Value} {i : Nat} (ht : xs.take i = (sizesN ns i).map (Value.int .i64)) (hi : i < xs.length) : (xs.set i (.int .i64 (szv ns i))).take (i + 1) = (sizesN ns (i + 1)).map (Value.int .i64) := by
  rw [sizes_next ns i rfl, ← ht]
  apply List.ext_getElem?
  intro j
  rw [List.getElem?_take]
  by_cases h1 : j < i
  · rw [if_pos (by omega), List.getElem?_append_left (by simp; omega), List.getElem?_set, if_neg (by omega), List.getElem?_take, if_pos h1]
  · by_cases h2 : j = i
    · subst h2
      rw [if_pos (by omega), List.getElem?_append_right (by simp; omega), List.getElem?_set, List.length_take, Nat.min_eq_left (by omega), Nat.sub_self]
      simp [hi]
    · rw [if_neg (by omega), List.getElem?_eq_none (by simp; omega)]
theorem cell_set_other {w : World} {p q : Addr} {u : Value} (h : w.cell? p = some u) (hne : p.block ≠ q.block) (v : Value) : (w.setCell q v).cell? p = some u := by
  rw [World.cell?_of_block (w := w) (Below.heap_setCell _ _ _ _ hne)]; exact h
theorem good_sz {ns : List Nd} {i : Nat} (h : ∀ j, j ≤ i → nodeB (ns.getD j Nd.zero) (j : Int) = true) : szv ns i = if 100000 < szSum ns (ns.getD i Nd.zero) then 100000 else szSum ns (ns.getD i Nd.zero) :=
  szv_good (h i (Nat.le_refl _)) (fun h0 => by have := szv_range ns (i - 1) (fun j hj => h j (by omega)); omega)

set_option maxHeartbeats 3200000 in
set_option maxRecDepth 20000 in
theorem implSize_in (a : Option Addr) (cap : Nat) (ns : List Nd) (K : Nat) (w : World) (hl : ns.length ≤ 1048576) (hK : K < ns.length) (hr : RowN w.heap.size w a ns) :
    Calls Try.prog 28 #[.agg #[.slice a ns.length cap], .int .i64 (K : Int)] w fun e w' => e = .returned (.int .i64 (szv ns K)) ∧ Below w.heap.size w w' := by
  obtain ⟨i0, hi, hz0, hz1, hz2⟩ := info_parts infoIntS
  have HR : Hid (RowN w.heap.size w a ns) := hr
  have H : Hid (inB (K : Int) 0 ((ns.length : Int) - 1) = true) := inB_mk (by omega)
  clear hr
  go_enter Try.func28, Try.ntmps28
  go_wp2_with fail
  refine (ahead_any _ _ _).mono ?_
  rintro e w' ⟨rfl, rfl⟩
  rw [H.out]
  go_wp2_with (at_make; refine wpList_make_full _ rfl _ _ 38 rfl (w.heap.size + 1) 3 i0 (.int .i64 0) 1 Try.underlying38 hi hz0 hz1 .i64 .i64 _ _ (K + 1) rfl rfl (by omega) (by omega) (by rw [hz2]; omega) (by unfold maxLen; omega) (by simp) ?_; intro w2 hown2 hgrow2)
  have hB2 : Below w.heap.size w w2 := ((Below.refl _ _).alloc (Nat.le_refl _) _).grown hgrow2 (by simp) (by simp)
  have hA2 : w2.cell? ⟨w.heap.size, 0, none⟩ = some (.slice a ns.length cap) := by
    have := hgrow2.block w.heap.size (by simp) (by simp)
    rw [heap_alloc_new] at this
    rw [cell_of_row w2 _ 0 _ _ _ this]; rfl
  have hs2 : w.heap.size + 1 < w2.heap.size := (hown2.lt _ (by simp [Value.ownBlock])).2
  have hown3 : w2.ownsRow (w.heap.size + 1) 3 1 (.slice (some ⟨w.heap.size + 1, 0, none⟩) (K + 1) (K + 1)) (K + 1) (madeCells (Value.int .i64 0).cells ((K + 1) * 1)).toList := by simpa using hown2
  clear hgrow2 hown2
  go_loopw [20] (fun iv wr => ∃ (i : Nat) (xs : List Value), i ≤ K + 1 ∧ iv = .int .i64 (i : Int) ∧ wr.ownsRow (w.heap.size + 1) 3 1 (.slice (some ⟨w.heap.size + 1, 0, none⟩) (K + 1) (K + 1)) (K + 1) xs ∧ Hid (xs.take i = (sizesN ns i).map (Value.int .i64)) ∧ Hid (∀ j, j < i → nodeB (ns.getD j Nd.zero) (j : Int) = true) ∧ Below w.heap.size w wr ∧ wr.cell? ⟨w.heap.size, 0, none⟩ = some (.slice a ns.length cap) ∧ w.heap.size + 1 < wr.heap.size)
    (fun iv _ => K + 1 - (intOf iv).toNat)
  case atStart => exact ⟨0, _, Nat.zero_le _, rfl, hown3, (by show _ = _; rfl), (fun j hj => by omega), hB2, hA2, hs2⟩
  case round =>
    obtain ⟨i, xs, hik, rfl, hown, HT, HG, hbel, hcA, hsz⟩ := hrel
    have hxl : xs.length = K + 1 := by have := hown.1; omega
    clear hown3 hB2 hA2 hs2
    by_cases hlt : i ≤ K
    · have hil : i < ns.length := by omega
      obtain ⟨b, off, rfl⟩ := HR.out.addr hil
      obtain ⟨hb, c0, c1, c2, c3⟩ := HR.out.at hbel hil
      have hi0 : (0 : Int) ≤ (i : Int) := by omega
      have hi1 : (i : Int) < (ns.length : Int) := by omega
      have hi2 : (i : Int) < (K : Int) + 1 := by omega
      have hcells := sizes_cells hown HT.out hik
      have hgs : nodeB (ns.getD i Nd.zero) (i : Int) = true → szv ns i = if 100000 < szSum ns (ns.getD i Nd.zero) then 100000 else szSum ns (ns.getD i Nd.zero) := fun hN => good_sz (fun j hj => by
        by_cases e : j = i
        · subst e; exact hN
        · exact HG.out j (by omega))
      have hrg := szv_le ns
      have HZ : Hid (nodeB (ns.getD i Nd.zero) (i : Int) = false → szv ns K = 0) := fun hN => szv_zero_up (szv_bad hN) K hlt
      have HG1 : Hid (nodeB (ns.getD i Nd.zero) (i : Int) = true → ∀ j, j < i + 1 → nodeB (ns.getD j Nd.zero) (j : Int) = true) := fun hN j hj => by
        by_cases e : j = i
        · subst e; exact hN
        · exact HG.out j (by omega)
      have HT2 : Hid ((xs.set i (.int .i64 (szv ns i))).take (i + 1) = (sizesN ns (i + 1)).map (Value.int .i64)) := sizes_set HT.out (by omega)
      clear HT HG
      obtain ⟨d, HN⟩ : ∃ d, Hid (nodeB (ns.getD i Nd.zero) (i : Int) = d) := ⟨_, rfl⟩
      cases d with
      | false =>
        have HV : Hid (szv ns K = 0) := HZ.out HN.out
        clear hgs HG1 HZ hcells HT2 hown hrg
        generalize ns.getD i Nd.zero = y at c0 c1 c2 c3 HN
        go_wp2_with fail
        refine (right_any y i _).mono ?_
        rintro e w3 ⟨v, rfl, hb3⟩
        rw [HN.out]
        go_wp2
        go_ret
        exact ⟨by rw [HV.out]; rfl, hbel.trans (hb3.mono hbel.size)⟩
      | true =>
        have HG2 : Hid (∀ j, j < i + 1 → nodeB (ns.getD j Nd.zero) (j : Int) = true) := HG1.out HN.out
        have hsv := hgs HN.out
        have hnt := nodeB_true HN.out
        clear hgs HG1 HZ
        generalize ns.getD i Nd.zero = y at c0 c1 c2 c3 HN hsv hnt
        obtain ⟨yk, yn, ya, yb⟩ := y
        dsimp only at c0 c1 c2 c3 hnt
        unfold szSum at hsv
        dsimp only at hsv
        rcases hnt with ⟨rfl, -⟩ | ⟨hk2, hk9, -, ha0, ha1, hone, -⟩ | ⟨hk2, hk9, -, ha0, ha1, hone, hb0, hb1'⟩
        · have HV : Hid (szv ns i = 1) := by show _ = _; rw [hsv]; simp
          clear hsv hrg hcells
          go_wp2_with fail
          refine (right_atom 1 yn ya yb i _ rfl).mono ?_
          rintro e w3 ⟨rfl, hb3⟩
          rw [HN.out]
          have HO3 : Hid (w3.ownsRow (w.heap.size + 1) 3 1 (.slice (some ⟨w.heap.size + 1, 0, none⟩) (K + 1) (K + 1)) (K + 1) xs) := own_next hown hb3
          have HB3 : Hid (Below w.heap.size w w3) := hbel.trans (hb3.mono hbel.size)
          have hA3 := (hb3.cell (p := ⟨w.heap.size, 0, none⟩) (show w.heap.size < wr.heap.size by omega)).trans hcA
          have hs3 : w.heap.size + 1 < w3.heap.size := Nat.lt_of_lt_of_le hsz hb3.size
          skip
          clear hb3 hown hbel hcA c0 c1 c2 c3
          have HW : Hid (Calls Try.prog 96 #[.iface 154 (.agg #[.int .i64 yn]), .slice (some ⟨w.heap.size + 1, 0, none⟩) (K + 1) (K + 1)] w3 fun e w' => e = .returned (.int .i64 (szv ns i)) ∧ Below w3.heap.size w3 w') := by
            show Calls _ _ _ _ _
            rw [HV.out]
            exact sizeWith_atom _ _ _
          go_wp2_with fail
          refine Calls.mono HW.out ?_
          rintro e w4 ⟨rfl, hb4⟩
          have ho4 := own_next HO3.out hb4
          have hB4 : Below w.heap.size w w4 := HB3.out.trans (hb4.mono HB3.out.size)
          have hA4 := (hb4.cell (p := ⟨w.heap.size, 0, none⟩) (show w.heap.size < w3.heap.size by omega)).trans hA3
          have hs4 : w.heap.size + 1 < w4.heap.size := Nat.lt_of_lt_of_le hs3 hb4.size
          obtain ⟨u0, e0⟩ : ∃ u, w4.cell? ⟨w.heap.size + 1, i, none⟩ = some u := by rw [ho4.cellAt i (by omega)]; exact ⟨_, List.getElem?_eq_getElem (by omega)⟩
          have f0 := ho4.frozenAt i
          have HS : Hid _ := (ho4.stored i (.int .i64 (szv ns i))).1
          have HBE : Hid (Below w.heap.size w (w4.setCell ⟨w.heap.size + 1, i, none⟩ (.int .i64 (szv ns i)))) := hB4.setCell (show w.heap.size ≤ w.heap.size + 1 by omega) _
          have HAE : Hid ((w4.setCell ⟨w.heap.size + 1, i, none⟩ (.int .i64 (szv ns i))).cell? ⟨w.heap.size, 0, none⟩ = some (.slice (some ⟨b, off, none⟩) ns.length cap)) := (cell_set_other hA4 (by simp) _)
          clear hb4 ho4 hB4 hA4 HO3 HB3 hA3 HV HW
          generalize szv ns i = sv at *
          go_wp2
          go_roundw
          case rel => first | exact ⟨i + 1, _, by omega, by go_num, HS.out, HT2.out, HG2, HBE.out, HAE.out, by simpa using hs4⟩ | ((repeat apply Exists.intro); exact ⟨⟨i + 1, _, by omega, by go_num, HS.out, HT2.out, HG2, HBE.out, HAE.out, by simpa using hs4⟩, rfl⟩)
          case measure => simp [intOf]; omega
        · obtain ⟨p, rfl⟩ : ∃ p : Nat, ya = (p : Int) := ⟨ya.toNat, by omega⟩
          have hpa := hcells p (by omega)
          have hra := hrg p
          simp only [if_neg (show ¬ yk = 1 by omega), if_pos hone, Int.toNat_natCast] at hsv
          have HV : Hid (szv ns i = if 100000 < 1 + szv ns p then 100000 else 1 + szv ns p) := hsv
          have HON : Hid (oneK yk = true) := hone
          have hpi : p < K + 1 := by omega
          clear hsv hrg hcells hone hk2 hk9
          generalize szv ns p = x1 at hpa hra HV
          go_wp2_with fail
          refine (right_one yk yn p yb i _ HON.out).mono ?_
          rintro e w3 ⟨rfl, hb3⟩
          rw [HN.out]
          have HO3 : Hid (w3.ownsRow (w.heap.size + 1) 3 1 (.slice (some ⟨w.heap.size + 1, 0, none⟩) (K + 1) (K + 1)) (K + 1) xs) := own_next hown hb3
          have HB3 : Hid (Below w.heap.size w w3) := hbel.trans (hb3.mono hbel.size)
          have hA3 := (hb3.cell (p := ⟨w.heap.size, 0, none⟩) (show w.heap.size < wr.heap.size by omega)).trans hcA
          have hs3 : w.heap.size + 1 < w3.heap.size := Nat.lt_of_lt_of_le hsz hb3.size
          have hp3 := (hb3.cell (p := ⟨w.heap.size + 1, p, none⟩) hsz).trans hpa
          clear hb3 hown hbel hcA c0 c1 c2 c3
          have HW : Hid (Calls Try.prog 96 #[.iface 156 (.agg #[.int .i64 yk, .int .i64 (p : Int)]), .slice (some ⟨w.heap.size + 1, 0, none⟩) (K + 1) (K + 1)] w3 fun e w' => e = .returned (.int .i64 (szv ns i)) ∧ Below w3.heap.size w3 w') := by
            show Calls _ _ _ _ _
            rw [HV.out]
            exact sizeWith_one yk p (w.heap.size + 1) (K + 1) (K + 1) x1 _ hpi hs3 hra.1 hra.2 hp3
          go_wp2_with fail
          refine Calls.mono HW.out ?_
          rintro e w4 ⟨rfl, hb4⟩
          have ho4 := own_next HO3.out hb4
          have hB4 : Below w.heap.size w w4 := HB3.out.trans (hb4.mono HB3.out.size)
          have hA4 := (hb4.cell (p := ⟨w.heap.size, 0, none⟩) (show w.heap.size < w3.heap.size by omega)).trans hA3
          have hs4 : w.heap.size + 1 < w4.heap.size := Nat.lt_of_lt_of_le hs3 hb4.size
          obtain ⟨u0, e0⟩ : ∃ u, w4.cell? ⟨w.heap.size + 1, i, none⟩ = some u := by rw [ho4.cellAt i (by omega)]; exact ⟨_, List.getElem?_eq_getElem (by omega)⟩
          have f0 := ho4.frozenAt i
          have HS : Hid _ := (ho4.stored i (.int .i64 (szv ns i))).1
          have HBE : Hid (Below w.heap.size w (w4.setCell ⟨w.heap.size + 1, i, none⟩ (.int .i64 (szv ns i)))) := hB4.setCell (show w.heap.size ≤ w.heap.size + 1 by omega) _
          have HAE : Hid ((w4.setCell ⟨w.heap.size + 1, i, none⟩ (.int .i64 (szv ns i))).cell? ⟨w.heap.size, 0, none⟩ = some (.slice (some ⟨b, off, none⟩) ns.length cap)) := (cell_set_other hA4 (by simp) _)
          clear hb4 ho4 hB4 hA4 HO3 HB3 hA3 HV HW
          generalize szv ns i = sv at *
          go_wp2
          go_roundw
          case rel => first | exact ⟨i + 1, _, by omega, by go_num, HS.out, HT2.out, HG2, HBE.out, HAE.out, by simpa using hs4⟩ | ((repeat apply Exists.intro); exact ⟨⟨i + 1, _, by omega, by go_num, HS.out, HT2.out, HG2, HBE.out, HAE.out, by simpa using hs4⟩, rfl⟩)
          case measure => simp [intOf]; omega
        · obtain ⟨p, rfl⟩ : ∃ p : Nat, ya = (p : Int) := ⟨ya.toNat, by omega⟩
          obtain ⟨q, rfl⟩ : ∃ q : Nat, yb = (q : Int) := ⟨yb.toNat, by omega⟩
          have hpa := hcells p (by omega)
          have hra := hrg p
          have hqa := hcells q (by omega)
          have hrb := hrg q
          simp only [if_neg (show ¬ yk = 1 by omega), if_neg (one_no hone), Int.toNat_natCast] at hsv
          have HV : Hid (szv ns i = if 100000 < 1 + szv ns p + szv ns q then 100000 else 1 + szv ns p + szv ns q) := hsv
          have HON : Hid (inB yk 1 9 = true ∧ ¬ yk = 1 ∧ oneK yk = false) := ⟨inB_mk (by omega), by omega, hone⟩
          have hpi : p < K + 1 := by omega
          have hqi : q < K + 1 := by omega
          clear hsv hrg hcells hone hk2 hk9
          generalize szv ns p = x1 at hpa hra HV
          generalize szv ns q = x2 at hqa hrb HV
          go_wp2_with fail
          refine (right_two yk yn p q i _ HON.out.1 HON.out.2.1 HON.out.2.2).mono ?_
          rintro e w3 ⟨rfl, hb3⟩
          rw [HN.out]
          have HO3 : Hid (w3.ownsRow (w.heap.size + 1) 3 1 (.slice (some ⟨w.heap.size + 1, 0, none⟩) (K + 1) (K + 1)) (K + 1) xs) := own_next hown hb3
          have HB3 : Hid (Below w.heap.size w w3) := hbel.trans (hb3.mono hbel.size)
          have hA3 := (hb3.cell (p := ⟨w.heap.size, 0, none⟩) (show w.heap.size < wr.heap.size by omega)).trans hcA
          have hs3 : w.heap.size + 1 < w3.heap.size := Nat.lt_of_lt_of_le hsz hb3.size
          have hp3 := (hb3.cell (p := ⟨w.heap.size + 1, p, none⟩) hsz).trans hpa
          have hq3 := (hb3.cell (p := ⟨w.heap.size + 1, q, none⟩) hsz).trans hqa
          clear hb3 hown hbel hcA c0 c1 c2 c3
          have HW : Hid (Calls Try.prog 96 #[.iface 158 (.agg #[.int .i64 yk, .int .i64 (p : Int), .int .i64 (q : Int)]), .slice (some ⟨w.heap.size + 1, 0, none⟩) (K + 1) (K + 1)] w3 fun e w' => e = .returned (.int .i64 (szv ns i)) ∧ Below w3.heap.size w3 w') := by
            show Calls _ _ _ _ _
            rw [HV.out]
            exact sizeWith_two yk p q (w.heap.size + 1) (K + 1) (K + 1) x1 x2 _ hpi hqi hs3 hra.1 hra.2 hrb.1 hrb.2 hp3 hq3
          go_wp2_with fail
          refine Calls.mono HW.out ?_
          rintro e w4 ⟨rfl, hb4⟩
          have ho4 := own_next HO3.out hb4
          have hB4 : Below w.heap.size w w4 := HB3.out.trans (hb4.mono HB3.out.size)
          have hA4 := (hb4.cell (p := ⟨w.heap.size, 0, none⟩) (show w.heap.size < w3.heap.size by omega)).trans hA3
          have hs4 : w.heap.size + 1 < w4.heap.size := Nat.lt_of_lt_of_le hs3 hb4.size
          obtain ⟨u0, e0⟩ : ∃ u, w4.cell? ⟨w.heap.size + 1, i, none⟩ = some u := by rw [ho4.cellAt i (by omega)]; exact ⟨_, List.getElem?_eq_getElem (by omega)⟩
          have f0 := ho4.frozenAt i
          have HS : Hid _ := (ho4.stored i (.int .i64 (szv ns i))).1
          have HBE : Hid (Below w.heap.size w (w4.setCell ⟨w.heap.size + 1, i, none⟩ (.int .i64 (szv ns i)))) := hB4.setCell (show w.heap.size ≤ w.heap.size + 1 by omega) _
          have HAE : Hid ((w4.setCell ⟨w.heap.size + 1, i, none⟩ (.int .i64 (szv ns i))).cell? ⟨w.heap.size, 0, none⟩ = some (.slice (some ⟨b, off, none⟩) ns.length cap)) := (cell_set_other hA4 (by simp) _)
          clear hb4 ho4 hB4 hA4 HO3 HB3 hA3 HV HW
          generalize szv ns i = sv at *
          go_wp2
          go_roundw
          case rel => first | exact ⟨i + 1, _, by omega, by go_num, HS.out, HT2.out, HG2, HBE.out, HAE.out, by simpa using hs4⟩ | ((repeat apply Exists.intro); exact ⟨⟨i + 1, _, by omega, by go_num, HS.out, HT2.out, HG2, HBE.out, HAE.out, by simpa using hs4⟩, rfl⟩)
          case measure => simp [intOf]; omega
    · have hcells := sizes_cells hown HT.out hik
      have hi2 : ¬ (i : Int) < (K : Int) + 1 := by omega
      have hcK := hcells K (by omega)
      have hk0 : (0 : Int) ≤ (K : Int) := by omega
      have hk1 : (K : Int) < (K : Int) + 1 := by omega
      clear hown hcells HT HG
      go_wp2
      go_ret
      exact ⟨rfl, hbel⟩
theorem implSize_any (a : Option Addr) (cap : Nat) (ns : List Nd) (k : Int) (w : World) (hl : ns.length ≤ 1048576) (hr : RowN w.heap.size w a ns) :
    Calls Try.prog 28 #[.agg #[.slice a ns.length cap], .int .i64 k] w fun e w' => e = .returned (.int .i64 (sizeN ns k)) ∧ Below w.heap.size w w' := by
  cases h : inB k 0 ((ns.length : Int) - 1) with
  | false =>
    rw [sizeN_out h]
    clear hr
    go_enter Try.func28, Try.ntmps28
    go_wp2_with fail
    refine (ahead_any _ _ _).mono ?_
    rintro e w' ⟨rfl, rfl⟩
    rw [h]
    go_wp2
    go_ret
    exact ⟨rfl, (Below.refl _ _).alloc (Nat.le_refl _) _⟩
  | true =>
    have hb := inB_true h
    obtain ⟨K, rfl⟩ : ∃ K : Nat, k = (K : Int) := ⟨k.toNat, by omega⟩
    have hK : K < ns.length := by omega
    rw [sizeN_in ns K hK]
    exact implSize_in a cap ns K w hl hK hr
end Go.Proofs.Ytffnadnndmmliaa
