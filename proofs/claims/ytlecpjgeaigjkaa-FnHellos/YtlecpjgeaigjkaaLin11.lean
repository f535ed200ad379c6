/- The contracts of chapter 11's LetterIn, the specification's, and what it answers in plain words. -/
import Derived.Test.YtlecpjgeaigjkaaHin11
import Derived.Test.YtlecpjgeaigjkaaLawInts
namespace Go.Proofs.Ytlecpjgeaigjkaa
open Go.RowKit
set_option linter.unusedVariables false
/-- How many parts a letter of a kind has. -/
def mnyV (kd : Int) : Int := if kd = 71 then 2 else if kd = 73 then 2 else if kd = 76 then 2 else if kd = 72 then 1 else if kd = 74 then 1 else if kd = 75 then 1 else 0
theorem mny_is (kd : Int) : mnyV kd = 0 ∨ mnyV kd = 1 ∨ mnyV kd = 2 := by
  unfold mnyV
  split
  · exact .inr (.inr rfl)
  split
  · exact .inr (.inr rfl)
  split
  · exact .inr (.inr rfl)
  split
  · exact .inr (.inl rfl)
  split
  · exact .inr (.inl rfl)
  split
  · exact .inr (.inl rfl)
  · exact .inl rfl
theorem parts_len {ns : List Nd} {k n : Int} (h : partsB ns k n = true) : (partsV ns k n).length = n.toNat := by
  unfold partsB at h
  unfold partsV
  cases hp : partsR ns k n with
  | none => rw [hp] at h; simp at h
  | some xs =>
    unfold partsR at hp
    split at hp
    · simp at hp
    · exact (partsN_len ns n.toNat k xs hp).1
theorem own_at {B : Nat} {w : World} {v : Value} {xs : List Int} (h : OwnInt B w v xs) (hp : 0 < xs.length) : ∃ g off cap, v = .slice (some ⟨g, off, none⟩) xs.length cap ∧ xs.length ≤ cap ∧ g < w.heap.size ∧ ∀ i, i < xs.length → w.cell? ⟨g, off + i, none⟩ = some (.int .i64 (xs.getD i 0)) := by
  have hc : ∀ a n cap, v = .slice a n cap → xs.length ≤ cap := fun a n cap e => by
    rcases h.2 with ⟨h0, h1⟩ | ⟨g, c, cur, hv, _, _, h4, _⟩
    · omega
    · rw [e] at hv; simp only [Value.slice.injEq] at hv; rw [hv.2.2]; exact h4
  obtain ⟨a, cap, rfl, -, hr⟩ := h.row
  rcases hr with h0 | ⟨b, off, rfl, hb, hc2⟩
  · rw [h0] at hp; simp at hp
  · exact ⟨b, off, cap, rfl, hc _ _ _ rfl, hb, hc2⟩
/-- A row without its first one. -/
theorem rowI_tail {B : Nat} {w : World} {g off : Nat} {xs : List Int} (hg : g < B) (hc : ∀ i, i < xs.length → w.cell? ⟨g, off + i, none⟩ = some (.int .i64 (xs.getD i 0))) : RowI B w (some ⟨g, off + 1, none⟩) (xs.drop 1) := by
  refine .inr ⟨g, off + 1, rfl, hg, fun j hj => ?_⟩
  have hj2 : 1 + j < xs.length := by simp at hj; omega
  have := hc (1 + j) hj2
  rw [show off + (1 + j) = off + 1 + j by omega] at this
  rw [this]
  rw [List.getD_eq_getElem?_getD, List.getD_eq_getElem?_getD, List.getElem?_drop]
def ltKd (ns : List Nd) (k : Int) : Int := numV ns (ndAt ns k).a
def ltPs (ns : List Nd) (k : Int) : List Int := partsV ns k (mnyV (ltKd ns k) + 1)
def linB (ns : List Nd) (k : Int) : Bool := isK ns k 2 && (isK ns (ndAt ns k).a 1 && (decide (mnyV (ltKd ns k) ≠ 0) && (partsB ns k (mnyV (ltKd ns k) + 1) && (decide (ltKd ns k ≠ 76) || isK ns ((ltPs ns k).getD 1 0) 1))))
def linK (ns : List Nd) (k : Int) : Int := if linB ns k = true then ltKd ns k else 0
def linV (ns : List Nd) (k : Int) : List Int := if linB ns k = true then (ltPs ns k).drop 1 else []
set_option maxHeartbeats 1600000 in
theorem specMany_any (kd : Int) (w : World) : Calls Try.prog 71 #[.int .i64 kd] w fun e w' => e = .returned (.int .i64 (mnyV kd)) ∧ w = w' := by
  by_cases h71 : kd = 71
  · subst h71
    have hm : mnyV 71 = 2 := rfl
    rw [hm]
    go_enter Try.func71, Try.ntmps71
    go_wp2
    go_ret
    exact ⟨rfl, rfl⟩
  by_cases h73 : kd = 73
  · subst h73
    have hm : mnyV 73 = 2 := rfl
    rw [hm]
    go_enter Try.func71, Try.ntmps71
    go_wp2
    go_ret
    exact ⟨rfl, rfl⟩
  by_cases h76 : kd = 76
  · subst h76
    have hm : mnyV 76 = 2 := rfl
    rw [hm]
    go_enter Try.func71, Try.ntmps71
    go_wp2
    go_ret
    exact ⟨rfl, rfl⟩
  by_cases h72 : kd = 72
  · subst h72
    have hm : mnyV 72 = 1 := rfl
    rw [hm]
    go_enter Try.func71, Try.ntmps71
    go_wp2
    go_ret
    exact ⟨rfl, rfl⟩
  by_cases h74 : kd = 74
  · subst h74
    have hm : mnyV 74 = 1 := rfl
    rw [hm]
    go_enter Try.func71, Try.ntmps71
    go_wp2
    go_ret
    exact ⟨rfl, rfl⟩
  by_cases h75 : kd = 75
  · subst h75
    have hm : mnyV 75 = 1 := rfl
    rw [hm]
    go_enter Try.func71, Try.ntmps71
    go_wp2
    go_ret
    exact ⟨rfl, rfl⟩
  have hm : mnyV kd = 0 := by unfold mnyV; simp [h71, h73, h76, h72, h74, h75]
  rw [hm]
  have b71 : (kd == 71) = false := by simpa using h71
  have b73 : (kd == 73) = false := by simpa using h73
  have b76 : (kd == 76) = false := by simpa using h76
  have b72 : (kd == 72) = false := by simpa using h72
  have b74 : (kd == 74) = false := by simpa using h74
  have b75 : (kd == 75) = false := by simpa using h75
  go_enter Try.func71, Try.ntmps71
  go_wp2
  go_ret
  exact ⟨rfl, rfl⟩
set_option maxHeartbeats 3200000 in
set_option maxRecDepth 20000 in
theorem specLetterIn_any (a : Option Addr) (cap : Nat) (ns : List Nd) (k : Int) (w : World) (hl : ns.length ≤ 1048576) (hr : RowN w.heap.size w a ns) :
    Calls Try.prog 32 #[.agg #[.slice a ns.length cap], .int .i64 k] w fun e w' => ∃ la lc, e = .returned (.tuple #[.int .i64 (linK ns k), .slice la (linV ns k).length lc]) ∧ RowI w'.heap.size w' la (linV ns k) ∧ Below w.heap.size w w' := by
  have hb0 : Below w.heap.size w ((w.alloc (.cells #[.slice a ns.length cap] 30)).alloc (.cells #[] 3)) := ((Below.refl _ _).alloc (Nat.le_refl _) _).alloc (by simp) _
  have hA0 : ((w.alloc (.cells #[.slice a ns.length cap] 30)).alloc (.cells #[] 3)).heap[w.heap.size]? = some (.cells #[.slice a ns.length cap] 30 (0, 0)) := (heap_alloc_old _ _ (by simp)).trans (heap_alloc_new w _)
  have hs0 : ((w.alloc (.cells #[.slice a ns.length cap] 30)).alloc (.cells #[] 3)).heap.size = w.heap.size + 2 := by simp
  have HR : Hid (RowN w.heap.size w a ns) := hr
  have HI0 : Hid _ := specIs_any a cap ns k 2 _ hl (hr.grown hb0)
  obtain ⟨E, V, HEF, hE, hV⟩ : ∃ E V, Hid (E = linK ns k ∧ V = linV ns k) ∧ E = linK ns k ∧ V = linV ns k := ⟨_, _, ⟨rfl, rfl⟩, rfl, rfl⟩
  rw [← hE, ← hV]
  clear hE hV
  have HNO : Hid (linB ns k = false → E = 0 ∧ V = []) := fun hz => by
    obtain ⟨e1, e2⟩ := HEF.out
    rw [e1, e2]
    exact ⟨by unfold linK; rw [hz]; rfl, by unfold linV; rw [hz]; rfl⟩
  have HYES : Hid (linB ns k = true → E = ltKd ns k ∧ V = (ltPs ns k).drop 1) := fun hz => by
    obtain ⟨e1, e2⟩ := HEF.out
    rw [e1, e2]
    exact ⟨by unfold linK; rw [hz]; rfl, by unfold linV; rw [hz]; rfl⟩
  clear HEF
  cases h2 : isK ns k 2 with
  | false =>
    rw [h2] at HI0
    have HZ : Hid (linB ns k = false) := by show _ = _; unfold linB; rw [h2]; rfl
    clear hr
    go_enter Try.func32, Try.ntmps32
    go_wp2_with fail
    refine Calls.mono HI0.out ?_
    rintro e w1 ⟨rfl, hb1⟩
    have HE2 : Hid (Below w.heap.size w w1) := hb0.trans (hb1.mono (by omega))
    clear hb1 hb0 hA0 HI0
    go_wp2
    go_ret2
    obtain ⟨e1, e2⟩ := HNO.out (HZ.out)
    subst e1 e2
    exact ⟨_, _, rfl, .inl rfl, HE2.out⟩
  | true =>
    rw [h2] at HI0
    obtain ⟨i, rfl, hi⟩ := okAt_in (isK_ok h2).1
    obtain ⟨b, off, rfl⟩ := hr.addr hi
    obtain ⟨hbk, n0, n1, n2, n3⟩ := hr.at (Below.refl _ _) hi
    have hi0 : (0 : Int) ≤ (i : Int) := by omega
    have hi1 : (i : Int) < (ns.length : Int) := by omega
    have HND : Hid (ndAt ns (i : Int) = ns.getD i Nd.zero) := ndAt_nat _ _
    generalize ns.getD i Nd.zero = y at n0 n1 n2 n3 HND
    obtain ⟨z, HZA⟩ : ∃ z, Hid (y.a = z) := ⟨_, rfl⟩
    rw [HZA.out] at n2
    obtain ⟨kd, HKD⟩ : ∃ q, Hid (numV ns z = q) := ⟨_, rfl⟩
    obtain ⟨d1, HD1⟩ : ∃ d, Hid (isK ns z 1 = d) := ⟨_, rfl⟩
    obtain ⟨m, HM⟩ : ∃ m, Hid (mnyV kd = m) := ⟨_, rfl⟩
    obtain ⟨d3, HD3⟩ : ∃ d, Hid (partsB ns (i : Int) (m + 1) = d) := ⟨_, rfl⟩
    have HKK : Hid (ltKd ns (i : Int) = kd) := by show _ = _; unfold ltKd; rw [HND.out, HZA.out, HKD.out]
    have HLB : Hid (linB ns (i : Int) = (d1 && (decide (m ≠ 0) && (d3 && (decide (kd ≠ 76) || isK ns ((partsV ns (i : Int) (m + 1)).getD 1 0) 1))))) := by show _ = _; unfold linB ltPs; rw [HKK.out, h2, HND.out, HZA.out, HD1.out, HM.out, HD3.out]; rfl
    have HPS : Hid (ltPs ns (i : Int) = partsV ns (i : Int) (m + 1)) := by show _ = _; unfold ltPs; rw [HKK.out, HM.out]
    rw [HKK.out, HPS.out] at HYES
    have hm3 : m = 0 ∨ m = 1 ∨ m = 2 := by rw [← HM.out]; exact mny_is kd
    have HN : Hid (∀ (w' : World), RowN w'.heap.size w' (some ⟨b, off, none⟩) ns → Calls Try.prog 64 #[.agg #[.slice (some ⟨b, off, none⟩) ns.length cap], .int .i64 z] w' fun e w'' => e = .returned (.tuple #[.int .i64 kd, .bool d1]) ∧ Below w'.heap.size w' w'') := fun w' h => by have := specNum_any _ cap ns z w' hl h; rw [HKD.out, HD1.out] at this; exact this
    have HMY : Hid (∀ w' : World, Calls Try.prog 71 #[.int .i64 kd] w' fun e w'' => e = .returned (.int .i64 m) ∧ w' = w'') := fun w' => by have := specMany_any kd w'; rw [HM.out] at this; exact this
    have HBK : Hid (b < w.heap.size ∧ w.cell? ⟨b, off + i * 4 + 2, none⟩ = some (.int .i64 z)) := ⟨hbk, n2⟩
    clear hr h2 n0 n1 n2 n3 hbk HKD HND HZA HKK HPS HM
    go_enter Try.func32, Try.ntmps32
    go_wp2_with fail
    refine Calls.mono HI0.out ?_
    rintro e w1 ⟨rfl, hb1⟩
    have HB1 : Hid (Below w.heap.size w w1) := hb0.trans (hb1.mono (by omega))
    have hA1 := (hb1.block w.heap.size (by omega)).trans hA0
    have c0 : w1.cell? ⟨w.heap.size, 0, none⟩ = some (.slice (some ⟨b, off, none⟩) ns.length cap) := (cell_of_row w1 _ 0 _ _ _ hA1).trans rfl
    have hsz1 : w.heap.size < w1.heap.size := (Array.getElem?_eq_some_iff.1 hA1).1
    obtain ⟨S, hS0, hNE, HK⟩ := read_class w1
    have k0 := HK.out.1 _ _ hsz1 c0
    have ka := HK.out.1 _ _ (Nat.lt_of_lt_of_le HBK.out.1 HB1.out.size) ((HB1.out.cell (p := ⟨b, off + i * 4 + 2, none⟩) HBK.out.1).trans HBK.out.2)
    have HB : Hid (∀ s : Hw S, Below w.heap.size w s.w) := fun s => HB1.out.trans ((HK.out.2.2.2 s).mono HB1.out.size)
    have HRS : Hid (∀ s : Hw S, RowN s.w.heap.size s.w (some ⟨b, off, none⟩) ns) := fun s => HR.out.grown (HB.out s)
    have hkk : ∀ (s : Hw S) w', Below s.w.heap.size s.w w' → S w' := HK.out.2.1
    have HAS : Hid (∀ s : Hw S, s.w.heap[w.heap.size]? = some (.cells #[.slice (some ⟨b, off, none⟩) ns.length cap] 30 (0, 0))) := fun s => ((HK.out.2.2.2 s).block _ hsz1).trans hA1
    clear hb1 hb0 hA0 hA1 c0 HI0 HBK
    go_wp2_with fail
    refine wp_region_held (S := S) (by kernel_rfl) (by kernel_rfl) hS0 ?_
    try simp only [List.append_eq, List.cons_append, List.nil_append]
    repeat (go_big_quiet_step (first | (go_at_call 64; exact Calls.held (HN.out _ (HRS.out _)) (hkk _))))
    refine wpQuiet_nil ?_
    rintro _ ⟨sw, rfl⟩
    have HB2 : Hid (Below w.heap.size w sw.w) := HB.out sw
    have hA2 := HAS.out sw
    have c0 := k0 sw
    have HP : Hid _ := specParts_any (some ⟨b, off, none⟩) cap ns (i : Int) (m + 1) sw.w hl (HR.out.grown HB2.out)
    obtain ⟨w2, hw2⟩ : ∃ w2, w2 = sw.w := ⟨_, rfl⟩
    rw [← hw2] at HB2 hA2 c0 HP ⊢
    clear hw2 k0 ka HB HRS hkk HAS HK hS0 hNE HN
    clear sw
    clear hsz1 HB1
    go_wp2_with fail
    refine (HMY.out _).mono ?_
    rintro e w3 ⟨rfl, rfl⟩
    clear HMY
    have hwm : wrap64 (m + 1) = m + 1 := by unfold wrap64; omega
    go_wp2_with fail
    refine Calls.mono HP.out ?_
    rintro e w3 ⟨v, rfl, hown, hb3⟩
    rw [HD3.out]
    have HB3 : Hid (Below w.heap.size w w3) := HB2.out.trans (hb3.mono HB2.out.size)
    have hA3 := (hb3.block w.heap.size (Array.getElem?_eq_some_iff.1 hA2).1).trans hA2
    have HRW : Hid _ := hown.row
    clear hb3 hA2 c0 HP HB2 hwm
    cases d1
    · obtain ⟨a9, c9, rfl, -, -⟩ := HRW.out
      have HE2 : Hid (Below w.heap.size w w3) := HB3.out
      clear hown hA3
      go_wp2
      go_ret2
      obtain ⟨e1, e2⟩ := HNO.out (by rw [HLB.out]; rfl)
      subst e1 e2
      exact ⟨_, _, rfl, .inl rfl, HE2.out⟩
    by_cases hm0 : m = 0
    · subst hm0
      obtain ⟨a9, c9, rfl, -, -⟩ := HRW.out
      have HE2 : Hid (Below w.heap.size w w3) := HB3.out
      clear hown hA3
      go_wp2
      go_ret2
      obtain ⟨e1, e2⟩ := HNO.out (by rw [HLB.out]; simp)
      subst e1 e2
      exact ⟨_, _, rfl, .inl rfl, HE2.out⟩
    have hmz : (m == 0) = false := by simpa using hm0
    cases d3
    · obtain ⟨a9, c9, rfl, -, -⟩ := HRW.out
      have HE2 : Hid (Below w.heap.size w w3) := HB3.out
      clear hown hA3
      go_wp2
      go_ret2
      obtain ⟨e1, e2⟩ := HNO.out (by rw [HLB.out]; simp)
      subst e1 e2
      exact ⟨_, _, rfl, .inl rfl, HE2.out⟩
    obtain ⟨xs, HXS⟩ : ∃ xs, Hid (partsV ns (i : Int) (m + 1) = xs) := ⟨_, rfl⟩
    rw [HXS.out] at hown HLB HYES
    have hxl : xs.length = (m + 1).toNat := by rw [← HXS.out]; exact parts_len HD3.out
    clear HRW HXS HD3 hmz
    rcases hm3 with hm3 | hm3 | hm3
    · exact absurd hm3 hm0
    · subst hm3
      obtain ⟨gp, o3, cp, rfl, hcp, hgp, q⟩ := own_at hown (by omega)
      have hL : xs.length = 2 := hxl
      have hVL : (xs.drop 1).length = 1 := by simp; omega
      obtain ⟨x1, HX1⟩ : ∃ x, Hid (xs.getD 1 0 = x) := ⟨_, rfl⟩
      have q1 : w3.cell? ⟨gp, o3 + 1, none⟩ = some (.int .i64 x1) := by have := q 1 (by omega); rw [HX1.out] at this; exact this
      have hc1 : 1 ≤ cp := by omega
      have HRT : Hid (∀ wz, Below w3.heap.size w3 wz → RowI wz.heap.size wz (some ⟨gp, o3 + 1, none⟩) (xs.drop 1)) := fun wz hz => (rowI_tail hgp q).grown hz
      rw [HX1.out] at HLB
      rw [hL] at hcp ⊢
      clear hown q hxl hL
      have c0 : w3.cell? ⟨w.heap.size, 0, none⟩ = some (.slice (some ⟨b, off, none⟩) ns.length cap) := (cell_of_row w3 _ 0 _ _ _ hA3).trans rfl
      have hsz3 : w.heap.size < w3.heap.size := (Array.getElem?_eq_some_iff.1 hA3).1
      obtain ⟨S, hS0, hNE, HK⟩ := read_class w3
      have k0 := HK.out.1 _ _ hsz3 c0
      have k1 := HK.out.1 _ _ (show (⟨gp, o3 + 1, none⟩ : Addr).block < _ from hgp) q1
      have HB : Hid (∀ s : Hw S, Below w.heap.size w s.w) := fun s => HB3.out.trans ((HK.out.2.2.2 s).mono HB3.out.size)
      have HRS : Hid (∀ s : Hw S, RowN s.w.heap.size s.w (some ⟨b, off, none⟩) ns) := fun s => HR.out.grown (HB.out s)
      have hkk : ∀ (s : Hw S) w', Below s.w.heap.size s.w w' → S w' := HK.out.2.1
      have HDR : Hid (∀ s : Hw S, S s.w.drew) := fun s => HK.out.2.1 s _ (Below.refl _ _).drew
      have HRT2 : Hid (∀ s : Hw S, RowI s.w.heap.size s.w (some ⟨gp, o3 + 1, none⟩) (xs.drop 1)) := fun s => HRT.out _ (HK.out.2.2.2 s)
      obtain ⟨d5, HD5⟩ : ∃ d, Hid (isK ns x1 1 = d) := ⟨_, rfl⟩
      obtain ⟨mm, HMM⟩ : ∃ d, Hid (numV ns x1 = d) := ⟨_, rfl⟩
      rw [HD5.out] at HLB
      have HC5 : Hid (∀ (w' : World), RowN w'.heap.size w' (some ⟨b, off, none⟩) ns → Calls Try.prog 64 #[.agg #[.slice (some ⟨b, off, none⟩) ns.length cap], .int .i64 x1] w' fun e w'' => e = .returned (.tuple #[.int .i64 mm, .bool d5]) ∧ Below w'.heap.size w' w'') := fun w' h => by have := specNum_any _ cap ns x1 w' hl h; rw [HD5.out, HMM.out] at this; exact this
      clear HX1 HRT q1 hA3 c0 HMM HD5 HK hsz3 HB3 HR
      by_cases h76 : kd = 76
      · subst h76
        go_wp2_with fail
        refine wp_region_held (S := S) (by kernel_rfl) (by kernel_rfl) hS0 ?_
        try simp only [List.append_eq, List.cons_append, List.nil_append]
        repeat (go_big_quiet_step (first | (go_at_call 64; exact Calls.held (HC5.out _ (HRS.out _)) (hkk _))))
        refine wpQuiet_nil ?_
        rintro _ ⟨sw, rfl⟩
        cases d5
        · have HE2 : Hid (Below w.heap.size w sw.w) := HB.out sw
          go_wp2
          go_ret2
          obtain ⟨e1, e2⟩ := HNO.out (by rw [HLB.out]; simp)
          subst e1 e2
          exact ⟨_, _, rfl, .inl rfl, HE2.out⟩
        go_wp2_with fail
        refine wp_region_held (S := S) (by kernel_rfl) (by kernel_rfl) (HDR.out _) ?_
        try simp only [List.append_eq, List.cons_append, List.nil_append]
        repeat (go_big_quiet_step (first | fail))
        refine wpQuiet_nil ?_
        rintro _ ⟨sw2, rfl⟩
        have HE2 : Hid (Below w.heap.size w sw2.w) := HB.out sw2
        have HRE := HRT2.out sw2
        have HREH : Hid _ := HRE
        clear HRE
        go_wp2
        go_ret2
        obtain ⟨e1, e2⟩ := HYES.out (by rw [HLB.out]; simp)
        subst e1 e2
        exact ⟨_, _, by rw [hVL]; rfl, HREH.out, HE2.out⟩
      have h76b : (kd == 76) = false := by simpa using h76
      go_wp2_with fail
      refine wp_region_held (S := S) (by kernel_rfl) (by kernel_rfl) hS0 ?_
      try simp only [List.append_eq, List.cons_append, List.nil_append]
      repeat (go_big_quiet_step (first | fail))
      refine wpQuiet_nil ?_
      rintro _ ⟨sw2, rfl⟩
      have HE2 : Hid (Below w.heap.size w sw2.w) := HB.out sw2
      have HRE := HRT2.out sw2
      have HREH : Hid _ := HRE
      clear HRE
      go_wp2
      go_ret2
      obtain ⟨e1, e2⟩ := HYES.out (by rw [HLB.out]; simp [h76])
      subst e1 e2
      exact ⟨_, _, by rw [hVL]; rfl, HREH.out, HE2.out⟩
    · subst hm3
      obtain ⟨gp, o3, cp, rfl, hcp, hgp, q⟩ := own_at hown (by omega)
      have hL : xs.length = 3 := hxl
      have hVL : (xs.drop 1).length = 2 := by simp; omega
      obtain ⟨x1, HX1⟩ : ∃ x, Hid (xs.getD 1 0 = x) := ⟨_, rfl⟩
      have q1 : w3.cell? ⟨gp, o3 + 1, none⟩ = some (.int .i64 x1) := by have := q 1 (by omega); rw [HX1.out] at this; exact this
      have hc1 : 1 ≤ cp := by omega
      have HRT : Hid (∀ wz, Below w3.heap.size w3 wz → RowI wz.heap.size wz (some ⟨gp, o3 + 1, none⟩) (xs.drop 1)) := fun wz hz => (rowI_tail hgp q).grown hz
      rw [HX1.out] at HLB
      rw [hL] at hcp ⊢
      clear hown q hxl hL
      have c0 : w3.cell? ⟨w.heap.size, 0, none⟩ = some (.slice (some ⟨b, off, none⟩) ns.length cap) := (cell_of_row w3 _ 0 _ _ _ hA3).trans rfl
      have hsz3 : w.heap.size < w3.heap.size := (Array.getElem?_eq_some_iff.1 hA3).1
      obtain ⟨S, hS0, hNE, HK⟩ := read_class w3
      have k0 := HK.out.1 _ _ hsz3 c0
      have k1 := HK.out.1 _ _ (show (⟨gp, o3 + 1, none⟩ : Addr).block < _ from hgp) q1
      have HB : Hid (∀ s : Hw S, Below w.heap.size w s.w) := fun s => HB3.out.trans ((HK.out.2.2.2 s).mono HB3.out.size)
      have HRS : Hid (∀ s : Hw S, RowN s.w.heap.size s.w (some ⟨b, off, none⟩) ns) := fun s => HR.out.grown (HB.out s)
      have hkk : ∀ (s : Hw S) w', Below s.w.heap.size s.w w' → S w' := HK.out.2.1
      have HDR : Hid (∀ s : Hw S, S s.w.drew) := fun s => HK.out.2.1 s _ (Below.refl _ _).drew
      have HRT2 : Hid (∀ s : Hw S, RowI s.w.heap.size s.w (some ⟨gp, o3 + 1, none⟩) (xs.drop 1)) := fun s => HRT.out _ (HK.out.2.2.2 s)
      obtain ⟨d5, HD5⟩ : ∃ d, Hid (isK ns x1 1 = d) := ⟨_, rfl⟩
      obtain ⟨mm, HMM⟩ : ∃ d, Hid (numV ns x1 = d) := ⟨_, rfl⟩
      rw [HD5.out] at HLB
      have HC5 : Hid (∀ (w' : World), RowN w'.heap.size w' (some ⟨b, off, none⟩) ns → Calls Try.prog 64 #[.agg #[.slice (some ⟨b, off, none⟩) ns.length cap], .int .i64 x1] w' fun e w'' => e = .returned (.tuple #[.int .i64 mm, .bool d5]) ∧ Below w'.heap.size w' w'') := fun w' h => by have := specNum_any _ cap ns x1 w' hl h; rw [HD5.out, HMM.out] at this; exact this
      clear HX1 HRT q1 hA3 c0 HMM HD5 HK hsz3 HB3 HR
      by_cases h76 : kd = 76
      · subst h76
        go_wp2_with fail
        refine wp_region_held (S := S) (by kernel_rfl) (by kernel_rfl) hS0 ?_
        try simp only [List.append_eq, List.cons_append, List.nil_append]
        repeat (go_big_quiet_step (first | (go_at_call 64; exact Calls.held (HC5.out _ (HRS.out _)) (hkk _))))
        refine wpQuiet_nil ?_
        rintro _ ⟨sw, rfl⟩
        cases d5
        · have HE2 : Hid (Below w.heap.size w sw.w) := HB.out sw
          go_wp2
          go_ret2
          obtain ⟨e1, e2⟩ := HNO.out (by rw [HLB.out]; simp)
          subst e1 e2
          exact ⟨_, _, rfl, .inl rfl, HE2.out⟩
        go_wp2_with fail
        refine wp_region_held (S := S) (by kernel_rfl) (by kernel_rfl) (HDR.out _) ?_
        try simp only [List.append_eq, List.cons_append, List.nil_append]
        repeat (go_big_quiet_step (first | fail))
        refine wpQuiet_nil ?_
        rintro _ ⟨sw2, rfl⟩
        have HE2 : Hid (Below w.heap.size w sw2.w) := HB.out sw2
        have HRE := HRT2.out sw2
        have HREH : Hid _ := HRE
        clear HRE
        go_wp2
        go_ret2
        obtain ⟨e1, e2⟩ := HYES.out (by rw [HLB.out]; simp)
        subst e1 e2
        exact ⟨_, _, by rw [hVL]; rfl, HREH.out, HE2.out⟩
      have h76b : (kd == 76) = false := by simpa using h76
      go_wp2_with fail
      refine wp_region_held (S := S) (by kernel_rfl) (by kernel_rfl) hS0 ?_
      try simp only [List.append_eq, List.cons_append, List.nil_append]
      repeat (go_big_quiet_step (first | fail))
      refine wpQuiet_nil ?_
      rintro _ ⟨sw2, rfl⟩
      have HE2 : Hid (Below w.heap.size w sw2.w) := HB.out sw2
      have HRE := HRT2.out sw2
      have HREH : Hid _ := HRE
      clear HRE
      go_wp2
      go_ret2
      obtain ⟨e1, e2⟩ := HYES.out (by rw [HLB.out]; simp [h76])
      subst e1 e2
      exact ⟨_, _, by rw [hVL]; rfl, HREH.out, HE2.out⟩
end Go.Proofs.Ytlecpjgeaigjkaa
